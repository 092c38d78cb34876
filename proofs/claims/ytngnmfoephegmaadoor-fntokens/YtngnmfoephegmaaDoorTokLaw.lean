/-
  laws.FnExactTokens answers true.
-/
import Derived.Test.YtngnmfoephegmaaDoorTokMarks
import Derived.Test.YtngnmfoephegmaaDoorSpecTokF
namespace Go.Proofs.YtngnmfoephegmaaDoor
open Go Go.RowKit Go.Maps Go.WideMaps

set_option maxRecDepth 100000 in
set_option maxHeartbeats 1000000 in
theorem implTokens_big (s : ByteArray) (hs : ¬ s.size ≤ 3000) (hlim : s.size ≤ 140737488351232) (w : World) :
    Calls Tryd.prog 7 #[.string s] w (TokPost s w) := by
  have hd : decide ((3000 : Int) < (s.size : Int)) = true := decide_eq_true (by omega)
  have hd' : decide (3000 < s.size) = true := decide_eq_true (by omega)
  have P : TokPost s w (.returned (.tuple #[.slice none 0 0, .int .i64 0, .int .i64 1])) w := ⟨Below.refl _ _, .inr ⟨0, 1, by unfold tokAns; rw [if_pos (by rw [lst_len]; omega)], rfl⟩⟩
  go_enter Tryd.func7, Tryd.ntmps7
  go_wp2
  refine wp_scope_straight ?_
  go_wp2
  (try rw [Exit.noGoto_ret])
  go_ret3
  exact P

set_option maxRecDepth 100000 in
set_option maxHeartbeats 1000000 in
theorem specTokens_big (s : ByteArray) (hs : ¬ s.size ≤ 3000) (hlim : s.size ≤ 140737488351232) (w : World) :
    Calls Tryd.prog 8 #[.string s] w (SpecPost s w) := by
  have hd : decide ((3000 : Int) < (s.size : Int)) = true := decide_eq_true (by omega)
  have hd' : decide (3000 < s.size) = true := decide_eq_true (by omega)
  have P : SpecPost s w (.returned (.tuple #[.slice (some ⟨w.heap.size, 0, none⟩) 0 0, .int .i64 0, .int .i64 1])) (w.alloc (.cells #[] 29)) := ⟨(Below.refl _ _).alloc (Nat.le_refl _) _, .inr ⟨0, 1, _, by unfold tokAns; rw [if_pos (by rw [lst_len]; omega)], rfl⟩⟩
  go_enter Tryd.func8, Tryd.ntmps8
  go_wp2
  go_ret3
  exact P

theorem rise_len {n : Nat} : ∀ {ts : List Tk} {lo : Nat}, Rise n lo ts → lo ≤ n → lo + ts.length ≤ n
  | [], _, _, h => by simpa using h
  | t :: ts, lo, h, _ => by
    have := rise_len h.2.2.2.2.2 h.2.2.1
    have h1 := h.1
    have h2 := h.2.1
    rw [List.length_cons]
    omega

/-- The tokens, the place and the code. -/
def ansT : Res → List Tk × Nat × Int
  | .ok ts => (ts, 0, 0)
  | .bad p c => ([], p, c)
theorem ansT_len (s : ByteArray) : (ansT (tokAns (lst s))).1.length ≤ 3000 := by
  unfold tokAns
  by_cases h : 3000 < (lst s).length
  · rw [if_pos h]; exact Nat.zero_le _
  · rw [if_neg h]
    cases hr : res (lst s) 0 with
    | bad p c => exact Nat.zero_le _
    | ok ts =>
      have := rise_len (res_rise ((lst s).length + 1) (lst s) 0 ts (by omega) hr) (Nat.zero_le _)
      show ts.length ≤ 3000
      omega

/-- What both answer, said alike. -/
def ImplSaid (s : ByteArray) (ts : List Tk) (p : Nat) (c : Int) (w : World) (e : Ending) (w' : World) : Prop :=
  ∃ (a : Option Addr) (cap : Nat), e = .returned (.tuple #[.slice a ts.length cap, .int .i64 (p : Int), .int .i64 c]) ∧ w'.ownsRow w.heap.size 29 3 (.slice a ts.length cap) ts.length (tokCells s ts) ∧ Below w.heap.size w w'
def SpecSaid (s : ByteArray) (ts : List Tk) (p : Nat) (c : Int) (w : World) (e : Ending) (w' : World) : Prop :=
  ∃ (a : Option Addr) (cap : Nat), e = .returned (.tuple #[.slice a ts.length cap, .int .i64 (p : Int), .int .i64 c]) ∧ (0 < ts.length → w'.ownsRow w.heap.size 29 3 (.slice a ts.length cap) ts.length (tokCells s ts)) ∧ Below w.heap.size w w'

theorem implTokens_any (s : ByteArray) (hlim : s.size ≤ 140737488351232) (w : World) (hE : Env w.heap.size w) :
    Calls Tryd.prog 7 #[.string s] w (ImplSaid s (ansT (tokAns (lst s))).1 (ansT (tokAns (lst s))).2.1 (ansT (tokAns (lst s))).2.2 w) := by
  have h : Calls Tryd.prog 7 #[.string s] w (TokPost s w) := by
    by_cases hs : s.size ≤ 3000
    · exact implTokens_small s hs w hE
    · exact implTokens_big s hs hlim w
  refine h.mono ?_
  rintro e w' ⟨hb, (⟨ts, v, hans, rfl, hown⟩ | ⟨p, c, hans, rfl⟩)⟩
  · obtain ⟨a, cap, rfl⟩ := owns_shape hown
    rw [hans]
    exact ⟨a, cap, rfl, hown, hb⟩
  · rw [hans]
    exact ⟨none, 0, rfl, World.ownsRow_nil _ _ _ _, hb⟩
theorem specTokens_any (s : ByteArray) (hlim : s.size ≤ 140737488351232) (w : World) :
    Calls Tryd.prog 8 #[.string s] w (SpecSaid s (ansT (tokAns (lst s))).1 (ansT (tokAns (lst s))).2.1 (ansT (tokAns (lst s))).2.2 w) := by
  have h : Calls Tryd.prog 8 #[.string s] w (SpecPost s w) := by
    by_cases hs : s.size ≤ 3000
    · exact specTokens_small s hs w
    · exact specTokens_big s hs hlim w
  refine h.mono ?_
  rintro e w' ⟨hb, (⟨ts, v, hans, rfl, hown⟩ | ⟨p, c, a, hans, rfl⟩)⟩
  · obtain ⟨a, cap, rfl⟩ := owns_shape hown
    rw [hans]
    exact ⟨a, cap, rfl, fun _ => hown, hb⟩
  · rw [hans]
    exact ⟨a, 0, rfl, fun h => absurd h (by simp [ansT]), hb⟩

set_option maxRecDepth 100000 in
set_option maxHeartbeats 2000000 in
theorem law_FnExactTokens (s : ByteArray) (hlim : s.size ≤ 140737488351232) (w : World) (hE : Env w.heap.size w) :
    Calls Tryd.prog 4 #[.string s] w fun e w' => e = .returned (.bool true) ∧ Below w.heap.size w w' := by
  by_cases hbig : s.size ≤ 1048576
  · have hd : decide ((1048576 : Int) < (s.size : Int)) = false := decide_eq_false (by omega)
    have hd' : decide (1048576 < s.size) = false := decide_eq_false (by omega)
    have hn := ansT_len s
    have HI := Lib.hid (fun W hW => implTokens_any s hlim W hW)
    have HS := Lib.hid (fun W => specTokens_any s hlim W)
    generalize (ansT (tokAns (lst s))).1 = ts at *
    generalize (ansT (tokAns (lst s))).2.1 = p at *
    generalize (ansT (tokAns (lst s))).2.2 = c at *
    have hpp : ((p : Int) != (p : Int)) = false := by simp
    have hcc : (c != c) = false := by simp
    obtain ⟨qn, hqn⟩ : ∃ qn : Int, qn = ((1 + 3 * ts.length : Nat) : Int) := ⟨_, rfl⟩
    have hq0 : decide (qn < 0) = false := decide_eq_false (by omega)
    have hqq : (qn != qn) = false := by simp
    have HQ := Lib.hid hqn
    clear hqn
    go_enter Tryd.func4, Tryd.ntmps4
    go_wp2_with fail
    refine (HS.out _).mono ?_
    rintro e w1 ⟨a2, c2, rfl, hsp, hb1⟩
    have hE1 : Env w1.heap.size w1 := (hE.stays hb1).top
    have HSP := Lib.hid hsp
    have HB1 := Lib.hid hb1
    clear hsp hb1
    go_wp2_with fail
    refine (HI.out _ hE1).mono ?_
    rintro e w2 ⟨a1, c1, rfl, him, hb2⟩
    have HIM := Lib.hid him
    have HB2 := Lib.hid hb2
    clear him hb2
    go_wp2_with fail
    refine (eqTokS_any s ts hn w1.heap.size w.heap.size a1 a2 c1 c2 _ (fun _ => HIM.out) (fun h => row_kept (HSP.out h) HB2.out)).mono ?_
    rintro e w3 ⟨rfl, hb3⟩
    have HB3 := Lib.hid (HB2.out.trans (hb3.mono HB2.out.size))
    have HI3 := Lib.hid (row_kept HIM.out hb3)
    clear hb3 HIM
    go_wp2_with fail
    refine (markTokS_any w1.heap.size _ ts.length hn _ _ HB3.out.size HI3.out).mono ?_
    rintro e w4 ⟨he, ⟨ys, hM, ho4⟩, hb4⟩
    rw [← HQ.out] at he
    subst he
    have HM := Lib.hid hM
    have HO4 := Lib.hid ho4
    have HB4 := Lib.hid (HB3.out.trans hb4)
    clear hM ho4 hb4 HI3
    go_wp2_with fail
    refine (heldTokS_any w1.heap.size _ ts.length hn ys _ HM.out HO4.out).mono ?_
    rintro e w5 ⟨he, hb5⟩
    rw [← HQ.out] at he
    subst he
    have HB5 := Lib.hid (HB4.out.trans (hb5.mono HB4.out.size))
    have HO5 := Lib.hid (row_kept HO4.out hb5)
    have hE5 : Env w5.heap.size w5 := (hE1.stays HB5.out).top
    clear hb5 HO4
    go_wp2_with fail
    refine (HI.out _ hE5).mono ?_
    rintro e w6 ⟨a3, c3, rfl, him, hb6⟩
    have HIM := Lib.hid him
    have HO6 := Lib.hid (row_kept HO5.out hb6)
    have HB6 := Lib.hid (HB5.out.trans (hb6.mono HB5.out.size))
    clear him hb6 HO5
    go_wp2_with fail
    refine (eqTokS_any s ts hn w5.heap.size w.heap.size a3 a2 c3 c2 _ (fun _ => HIM.out) (fun h => row_kept (HSP.out h) HB6.out)).mono ?_
    rintro e w7 ⟨rfl, hb7⟩
    have HB7 := Lib.hid (HB6.out.trans (hb7.mono HB6.out.size))
    have HO7 := Lib.hid (row_kept HO6.out hb7)
    clear hb7 HO6 HIM
    go_wp2_with fail
    refine (heldTokS_any w1.heap.size _ ts.length hn ys _ HM.out HO7.out).mono ?_
    rintro e w8 ⟨he, hb8⟩
    rw [← HQ.out] at he
    subst he
    have hb := HB1.out.trans ((HB7.out.trans (hb8.mono HB7.out.size)).mono HB1.out.size)
    clear hb8 HO7 HM HQ
    go_wp2
    go_ret
    exact ⟨rfl, hb⟩
  · have hd : decide ((1048576 : Int) < (s.size : Int)) = true := decide_eq_true (by omega)
    have hd' : decide (1048576 < s.size) = true := decide_eq_true (by omega)
    go_enter Tryd.func4, Tryd.ntmps4
    go_wp2
    go_ret
    exact ⟨rfl, Below.refl _ _⟩

end Go.Proofs.YtngnmfoephegmaaDoor
