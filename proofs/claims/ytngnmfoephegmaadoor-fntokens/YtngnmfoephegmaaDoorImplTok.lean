/-
  THE WALK over impl.Tokens.
-/
import Derived.Test.YtngnmfoephegmaaDoorSigns
import Derived.Test.YtngnmfoephegmaaDoorJumps
import Derived.Test.YtngnmfoephegmaaDoorParts
import Derived.WalkMore
namespace Go.Proofs.YtngnmfoephegmaaDoor
open Go Go.RowKit Go.Maps Go.WideMaps

theorem infoTok : (Tryd.prog.info? 29).map (fun i => (i.zero, i.size, i.bytes)) = some (some (.agg #[.int .i64 0, .string ⟨#[]⟩, .int .i64 0]), 3, 32) := by kernel_rfl

/-- A token as it lies in memory. -/
def tokCell (s : ByteArray) (t : Tk) : List Value := [.int .i64 t.kind, .string (s.extract t.from_ t.end_), .int .i64 (t.from_ : Int)]
def tokCells (s : ByteArray) (ts : List Tk) : List Value := ts.flatMap (tokCell s)
theorem tokCells_snoc (s : ByteArray) (ts : List Tk) (t : Tk) : tokCells s (ts ++ [t]) = tokCells s ts ++ tokCell s t := by simp [tokCells]
theorem tokCells_len (s : ByteArray) : ∀ ts : List Tk, (tokCells s ts).length = ts.length * 3
  | [] => rfl
  | t :: ts => by
    have := tokCells_len s ts
    simp only [tokCells, List.flatMap_cons, List.length_append, List.length_cons] at this ⊢
    rw [this]
    simp [tokCell]
    omega

/-- What impl.Tokens answers. -/
def TokPost (s : ByteArray) (w : World) (e : Ending) (w' : World) : Prop :=
  Below w.heap.size w w' ∧
    ((∃ (ts : List Tk) (v : Value), tokAns (lst s) = .ok ts ∧ e = .returned (.tuple #[v, .int .i64 0, .int .i64 0]) ∧ w'.ownsRow w.heap.size 29 3 v ts.length (tokCells s ts)) ∨
     (∃ (p : Nat) (c : Int), tokAns (lst s) = .bad p c ∧ e = .returned (.tuple #[.slice none 0 0, .int .i64 (p : Int), .int .i64 c])))

/-- So far: the tokens ahead of p are put. -/
structure TokSt (s : ByteArray) (w0 : World) (p : Nat) (ts : List Tk) (v : Value) (w : World) : Prop where
  le : p ≤ s.size
  len : ts.length ≤ p
  res : res (lst s) 0 = (res (lst s) p).pre ts
  own : w.ownsRow w0.heap.size 29 3 v ts.length (tokCells s ts)
  bel : Below w0.heap.size w0 w

def TokJ (s : ByteArray) (w0 : World) (a : Act) (w : World) : Prop :=
  ∃ (u : Nat → Value) (p : Nat) (ts : List Tk) (v : Value), a = { tmps := #[.string s, u 1, u 2, u 3, u 4, v, u 6, .int .i64 (p : Int), u 8, u 9, u 10, u 11, u 12, u 13, u 14, u 15, u 16, u 17, u 18, u 19, u 20, u 21, u 22, u 23, u 24, u 25, u 26, u 27, u 28, u 29, u 30, u 31, u 32, u 33, u 34, u 35, u 36, u 37, u 38, u 39, u 40, u 41, u 42, u 43, u 44, u 45, u 46, u 47, u 48, u 49, u 50, u 51, u 52, u 53, u 54, u 55, u 56, u 57, u 58, u 59, u 60, u 61, u 62, u 63, u 64, u 65, u 66, u 67, u 68, u 69, u 70, u 71, u 72, u 73, u 74, u 75, u 76, u 77, u 78, u 79, u 80, u 81, u 82, u 83, u 84, u 85, u 86, u 87, u 88, u 89, u 90, u 91, u 92, u 93, u 94, u 95, u 96, u 97], defers := [] } ∧ TokSt s w0 p ts v w

theorem TokJ_of {s : ByteArray} {w0 w : World} {p : Nat} {ts : List Tk} {v : Value} (arr : Array Value) (h : ({ tmps := arr, defers := [] } : Act) = { tmps := #[.string s, arr.getD 1 undef, arr.getD 2 undef, arr.getD 3 undef, arr.getD 4 undef, v, arr.getD 6 undef, .int .i64 (p : Int), arr.getD 8 undef, arr.getD 9 undef, arr.getD 10 undef, arr.getD 11 undef, arr.getD 12 undef, arr.getD 13 undef, arr.getD 14 undef, arr.getD 15 undef, arr.getD 16 undef, arr.getD 17 undef, arr.getD 18 undef, arr.getD 19 undef, arr.getD 20 undef, arr.getD 21 undef, arr.getD 22 undef, arr.getD 23 undef, arr.getD 24 undef, arr.getD 25 undef, arr.getD 26 undef, arr.getD 27 undef, arr.getD 28 undef, arr.getD 29 undef, arr.getD 30 undef, arr.getD 31 undef, arr.getD 32 undef, arr.getD 33 undef, arr.getD 34 undef, arr.getD 35 undef, arr.getD 36 undef, arr.getD 37 undef, arr.getD 38 undef, arr.getD 39 undef, arr.getD 40 undef, arr.getD 41 undef, arr.getD 42 undef, arr.getD 43 undef, arr.getD 44 undef, arr.getD 45 undef, arr.getD 46 undef, arr.getD 47 undef, arr.getD 48 undef, arr.getD 49 undef, arr.getD 50 undef, arr.getD 51 undef, arr.getD 52 undef, arr.getD 53 undef, arr.getD 54 undef, arr.getD 55 undef, arr.getD 56 undef, arr.getD 57 undef, arr.getD 58 undef, arr.getD 59 undef, arr.getD 60 undef, arr.getD 61 undef, arr.getD 62 undef, arr.getD 63 undef, arr.getD 64 undef, arr.getD 65 undef, arr.getD 66 undef, arr.getD 67 undef, arr.getD 68 undef, arr.getD 69 undef, arr.getD 70 undef, arr.getD 71 undef, arr.getD 72 undef, arr.getD 73 undef, arr.getD 74 undef, arr.getD 75 undef, arr.getD 76 undef, arr.getD 77 undef, arr.getD 78 undef, arr.getD 79 undef, arr.getD 80 undef, arr.getD 81 undef, arr.getD 82 undef, arr.getD 83 undef, arr.getD 84 undef, arr.getD 85 undef, arr.getD 86 undef, arr.getD 87 undef, arr.getD 88 undef, arr.getD 89 undef, arr.getD 90 undef, arr.getD 91 undef, arr.getD 92 undef, arr.getD 93 undef, arr.getD 94 undef, arr.getD 95 undef, arr.getD 96 undef, arr.getD 97 undef], defers := [] }) (R : TokSt s w0 p ts v w) : TokJ s w0 { tmps := arr, defers := [] } w :=
  ⟨fun i => arr.getD i undef, p, ts, v, h, R⟩

theorem extract_le (s : ByteArray) (a b : Nat) : (s.extract a b).size ≤ s.size := by
  rw [← lst_len, lst_extract, List.length_take, List.length_drop, lst_len]
  omega
theorem behind_le (b : Nat) {l : List UInt8} {p : Nat} (h : p ≤ l.length) : p ≤ behind b l p ∧ behind b l p ≤ l.length := by
  have := stopAt_le (notB b) l p h
  unfold behind
  split <;> omega
/-- A quote with no other behind it begins no symbol. -/
theorem no_sym {m : List UInt8} (h : ∀ c ∈ m, c.toNat ≠ 34) (x : UInt8) : iKind (x :: m) ≠ 2 := by
  intro hk
  unfold iKind at hk
  split at hk
  · cases hk
  · rename_i t ht
    have hs := rdAll_sound ht
    cases t with
    | num n => cases hk
    | con a b => cases hk
    | sym b =>
      have h2 := hs.2.1
      rw [Tm.text] at h2
      injection h2 with _ h3
      exact h 34 (by rw [← h3]; simp) rfl
theorem stop_none {l : List UInt8} {p b : Nat} (h : ¬ stopAt (notB b) l p < l.length) : ∀ c ∈ l.drop p, c.toNat ≠ b := by
  intro c hc
  have h1 := stopAt_drop (notB b) l p
  have h0 : l.drop (stopAt (notB b) l p) = [] := List.drop_eq_nil_of_le (by omega)
  rw [h0] at h1
  have h2 : (l.drop p).takeWhile (notB b) = l.drop p := by
    have := List.takeWhile_append_dropWhile (p := notB b) (l := l.drop p)
    rwa [h1, List.append_nil] at this
  rw [← h2] at hc
  have h4 : ∀ (m : List UInt8), c ∈ m.takeWhile (notB b) → notB b c = true := by
    intro m
    induction m with
    | nil => intro h; cases h
    | cons x m ih =>
      intro h
      rw [List.takeWhile_cons] at h
      split at h
      · rcases List.mem_cons.1 h with rfl | h
        · assumption
        · exact ih h
      · cases h
  have := h4 _ hc
  simpa [notB] using this
theorem tokAt_sym2 {l : List UInt8} {a : Nat} (h : a < l.length) (h1 : (isBig l[a] || isSml l[a]) = false) (h2 : isDig l[a] = false) (h3 : l[a].toNat = 34) :
    tokAt l a = if iKind ((l.drop a).take (behind 34 l (a + 1) - a)) = 2 then .tok ⟨4, a, behind 34 l (a + 1)⟩ else .bad 3 := by
  rw [tokAt_sym h h1 h2 h3]
  by_cases hs : stopAt (notB 34) l (a + 1) < l.length
  · have e : behind 34 l (a + 1) = stopAt (notB 34) l (a + 1) + 1 := if_pos hs
    rw [e]
    by_cases hk : iKind ((l.drop a).take (stopAt (notB 34) l (a + 1) + 1 - a)) = 2
    · rw [if_pos ⟨hs, hk⟩, if_pos hk]
    · rw [if_neg (fun hx => hk hx.2), if_neg hk]
  · have e : behind 34 l (a + 1) = l.length := if_neg hs
    rw [e, if_neg (fun hx => hs hx.1), if_neg]
    rw [List.take_of_length_le (by rw [List.length_drop]; omega), List.drop_eq_getElem_cons h]
    exact no_sym (stop_none hs) _
/-- One token more. -/
theorem tok_next {s : ByteArray} {w0 w1 : World} {p r : Nat} {ts : List Tk} {t : Tk} {g cap : Nat} (hL : (lst s).length = s.size) (hp : p ≤ r) (hr : r < s.size) (hlen : ts.length ≤ p) (h0 : res (lst s) 0 = (res (lst s) p).pre ts) (hpr : res (lst s) p = res (lst s) r)
    (hn : ∀ h : r < (lst s).length, isBlk (lst s)[r] = false ∧ isCom (lst s) r = false) (ht : tokAt (lst s) r = .tok t) (hown : w1.ownsRow w0.heap.size 29 3 (.slice (some ⟨g, 0, none⟩) (ts.length + 1) cap) (ts.length + 1) (tokCells s ts ++ tokCell s t)) (hb : Below w0.heap.size w0 w1) :
    TokSt s w0 t.end_ (ts ++ [t]) (.slice (some ⟨g, 0, none⟩) (ts.length + 1) cap) w1 := by
  obtain ⟨h1, h2, _⟩ := tokAt_in ht
  exact ⟨by omega, by rw [List.length_append]; simp; omega, ans_tok h0 hpr (by omega) (hn (by omega)) ht, by rw [List.length_append, tokCells_snoc]; exact hown, hb⟩

set_option maxRecDepth 100000 in
set_option maxHeartbeats 2000000 in
theorem implTokens_small (s : ByteArray) (hs : s.size ≤ 3000) (w : World) (hE : Env w.heap.size w) :
    Calls Tryd.prog 7 #[.string s] w (TokPost s w) := by
  have hd : decide ((3000 : Int) < (s.size : Int)) = false := decide_eq_false (by omega)
  have hd' : decide (3000 < s.size) = false := decide_eq_false (by omega)
  have HL := Lib.hid (lst_len s)
  obtain ⟨i0, hi, hz0, hz1, hz2⟩ := info_parts infoTok
  go_enter Tryd.func7, Tryd.ntmps7
  go_wp2
  refine wp_scope_follow2 2 0 (TokJ s w) (fun a _ => s.size - (intOf (a.tmps.getD 7 undef)).toNat) rfl ?_ ?_
  case refine_2 =>
    intro hpass
    go_wp2
    go_step3
    rename_i K hK
    refine hK _ _ (hpass _ _ ⟨fun i => (#[undef, undef, Value.slice none 0 0, .int .i64 0, .int .i64 0, undef, .int .i64 0, undef, .complex .f64 0 0, .string s, .int .i64 (s.size : Int), .bool false] : Array Value).getD i undef, 0, [], .slice none 0 0, rfl, ⟨Nat.zero_le _, Nat.le_refl _, (Res.pre_nil _).symm, World.ownsRow_nil _ _ _ _, Below.refl _ _⟩⟩)
  case refine_1 =>
    rintro a wr ⟨u, p, ts, v, rfl, hst⟩
    obtain ⟨hp, hlen, hres, hown, hbel⟩ := hst
    obtain ⟨av, cv, rfl⟩ := owns_shape hown
    have hEr := (hE.stays hbel).top
    have hBs := hbel.size
    have HOWN := Lib.hid hown
    have HBEL := Lib.hid hbel
    have HRES := Lib.hid hres
    clear hown hbel hres
    go_wp2_with fail
    refine (blanksEnd_any s (by omega) p hp _).mono ?_
    rintro e w' ⟨r, rfl, rfl, hpr, hr, hpres, hnot⟩
    have HP := Lib.hid hpres
    have HN := Lib.hid hnot
    clear hpres hnot
    by_cases hlt : r < s.size
    · have hlt' : r < (lst s).length := by rw [HL.out]; exact hlt
      have hne : ((r : Int) == (s.size : Int)) = false := by simp; omega
      by_cases hnm : (isBig s[r] || isSml s[r]) = true
      · have hnam : isNam s[r] = true := by unfold isNam; rw [hnm]; rfl
        have HT := Lib.hid (tokAt_name hlt' hnm)
        have hel := stopAt_le isNam (lst s) (r + 1) (by omega)
        have HNE := Lib.hid (fun W => nameEnd_any s (by omega) r hr W)
        have HNK := Lib.hid (fun W => nameKind_any s[r] W)
        rw [stopAt_succ hlt' hnam] at HNE
        rw [show (lst s)[r] = s[r] from rfl] at HT
        generalize (if isBig s[r] = true then (2 : Int) else 1) = kk at *
        generalize stopAt isNam (lst s) (r + 1) = e at *
        obtain ⟨he1, he2⟩ := hel
        have hes : e ≤ s.size := by have := HL.out; omega
        have HNS := Lib.hid (fun W => newSpan_any r e (by omega) (by omega) W)
        have HLN := Lib.hid (fun W => spanLen_any r (e - r) (by omega) W)
        have HIN := Lib.hid (fun W => spanIn_any s r (e - r) (by omega) (by omega) (by omega) (by omega) W)
        have HEN := Lib.hid (fun W => spanEnd_any r (e - r) (by omega) (by omega) W)
        rw [show r + (e - r) = e from by omega] at HIN HEN
        generalize spanV r (e - r) = sp at *
        have hcast : ((e - r : Nat) : Int) = (e : Int) - (r : Int) := by omega
        rw [hcast] at HLN
        clear hcast
        by_cases h20 : e - r ≤ 20
        · rw [if_pos h20] at HT
          have hgt : decide ((20 : Int) < (e : Int) - (r : Int)) = false := decide_eq_false (by omega)
          have hol := HOWN.out.alloc (.cells #[.int .i64 kk, .string (s.extract r e), .int .i64 (r : Int)] 29)
          have hnb := World.news_of_block (cs := #[.int .i64 kk, .string (s.extract r e), .int .i64 (r : Int)]) (t := 29) (fr := (0, 0)) (heap_alloc_new wr _)
          have HOL := Lib.hid hol
          have HNB := Lib.hid hnb
          clear hol hnb
          generalize hpc : s.extract r e = pc at *
          have HPC := Lib.hid hpc
          clear hpc
          cases hbg : inB 65 90 s[r]
          · have hsm : inB 97 122 s[r] = true := by rw [isBig_inB, isSml_inB, hbg] at hnm; simpa using hnm
            clear hnm hnam
            go_wp2_with (first
            | (go_at_call 15; refine (isBigLetter_any s[r] _).mono ?_; rintro e w' ⟨rfl, rfl⟩)
            | (go_at_call 16; refine (isSmallLetter_any s[r] _).mono ?_; rintro e w' ⟨rfl, rfl⟩)
            | (go_at_call 17; refine (isDigit_any s[r] _).mono ?_; rintro e w' ⟨rfl, rfl⟩)
            | (go_at_call 18; refine (HNK.out _).mono ?_; rintro e w' ⟨rfl, rfl⟩)
            | (go_at_call 20; refine (HNE.out _).mono ?_; rintro e w' ⟨rfl, rfl⟩)
            | (go_at_call 19; refine (HNS.out _).mono ?_; rintro e w' ⟨rfl, rfl⟩)
            | (go_at_call 21; refine (HLN.out _).mono ?_; rintro e w' ⟨rfl, rfl⟩)
            | (go_at_call 24; refine (HIN.out _).mono ?_; rintro e w' ⟨rfl, rfl⟩)
            | (go_at_call 27; refine (HEN.out _).mono ?_; rintro e w' ⟨rfl, rfl⟩))
            go_step3
            refine inBlock_goto (then_goto ?_)
            apply follow_on (l := 1) (n := 1)
            · rfl
            go_wp2_with (first
            | (go_at_call 15; refine (isBigLetter_any s[r] _).mono ?_; rintro e w' ⟨rfl, rfl⟩)
            | (go_at_call 16; refine (isSmallLetter_any s[r] _).mono ?_; rintro e w' ⟨rfl, rfl⟩)
            | (go_at_call 17; refine (isDigit_any s[r] _).mono ?_; rintro e w' ⟨rfl, rfl⟩)
            | (go_at_call 18; refine (HNK.out _).mono ?_; rintro e w' ⟨rfl, rfl⟩)
            | (go_at_call 20; refine (HNE.out _).mono ?_; rintro e w' ⟨rfl, rfl⟩)
            | (go_at_call 19; refine (HNS.out _).mono ?_; rintro e w' ⟨rfl, rfl⟩)
            | (go_at_call 21; refine (HLN.out _).mono ?_; rintro e w' ⟨rfl, rfl⟩)
            | (go_at_call 24; refine (HIN.out _).mono ?_; rintro e w' ⟨rfl, rfl⟩)
            | (go_at_call 27; refine (HEN.out _).mono ?_; rintro e w' ⟨rfl, rfl⟩))
            go_step3
            refine then_goto ?_
            apply follow_on (l := 5) (n := 0)
            · rfl
            go_wp2_with (first
              | (go_at_call 24; refine (HIN.out _).mono ?_; rintro e w' ⟨rfl, rfl⟩)
              | (at_builtin; refine wpList_append_lies _ rfl (.tmp 87) (.tmp 94) 25 rfl w.heap.size 29 i0 (.agg #[.int .i64 0, .string ⟨#[]⟩, .int .i64 0]) 3 32 Tryd.underlying25 hi hz0 hz1 hz2 rfl (by decide) (.slice av ts.length cv) ts.length (tokCells s ts) rfl HOL.out ⟨wr.heap.size, 0, none⟩ 1 1 [.int .i64 kk, .string pc, .int .i64 (r : Int)] rfl rfl HNB.out (by simp [Value.oneCell']) (by omega) (by unfold maxLen; omega) (by omega) (by simp; omega) _ rfl ?_))
            intro g cap w1 hown1 hgrow hat hltg
            have hb1 : Below w.heap.size w w1 := (HBEL.out.alloc hBs _).grown hgrow (by simp; omega) (own_ge HOL.out)
            have R : TokSt s w e (ts ++ [⟨kk, r, e⟩]) (.slice (some ⟨g, 0, none⟩) (ts.length + 1) cap) w1 :=
              tok_next (t := ⟨kk, r, e⟩) HL.out hpr hlt hlen HRES.out HP.out HN.out HT.out (by simp only [tokCell]; rw [HPC.out]; exact hown1) hb1
            clear hown1 hgrow hat hltg hb1 HOL HNB HT HRES HP HN HOWN HBEL hEr
            go_wp2_with (go_at_call 27; refine (HEN.out _).mono ?_; rintro e w' ⟨rfl, rfl⟩)
            go_step3
            exact follow_back ⟨TokJ_of _ rfl R, by show s.size - (intOf (.int .i64 (e : Int))).toNat < s.size - (intOf (.int .i64 (p : Int))).toNat; simp [intOf]; omega⟩
          · clear hnm hnam
            go_wp2_with (first
            | (go_at_call 15; refine (isBigLetter_any s[r] _).mono ?_; rintro e w' ⟨rfl, rfl⟩)
            | (go_at_call 16; refine (isSmallLetter_any s[r] _).mono ?_; rintro e w' ⟨rfl, rfl⟩)
            | (go_at_call 17; refine (isDigit_any s[r] _).mono ?_; rintro e w' ⟨rfl, rfl⟩)
            | (go_at_call 18; refine (HNK.out _).mono ?_; rintro e w' ⟨rfl, rfl⟩)
            | (go_at_call 20; refine (HNE.out _).mono ?_; rintro e w' ⟨rfl, rfl⟩)
            | (go_at_call 19; refine (HNS.out _).mono ?_; rintro e w' ⟨rfl, rfl⟩)
            | (go_at_call 21; refine (HLN.out _).mono ?_; rintro e w' ⟨rfl, rfl⟩)
            | (go_at_call 24; refine (HIN.out _).mono ?_; rintro e w' ⟨rfl, rfl⟩)
            | (go_at_call 27; refine (HEN.out _).mono ?_; rintro e w' ⟨rfl, rfl⟩))
            go_step3
            refine inBlock_goto (then_goto ?_)
            apply follow_on (l := 1) (n := 1)
            · rfl
            go_wp2_with (first
            | (go_at_call 15; refine (isBigLetter_any s[r] _).mono ?_; rintro e w' ⟨rfl, rfl⟩)
            | (go_at_call 16; refine (isSmallLetter_any s[r] _).mono ?_; rintro e w' ⟨rfl, rfl⟩)
            | (go_at_call 17; refine (isDigit_any s[r] _).mono ?_; rintro e w' ⟨rfl, rfl⟩)
            | (go_at_call 18; refine (HNK.out _).mono ?_; rintro e w' ⟨rfl, rfl⟩)
            | (go_at_call 20; refine (HNE.out _).mono ?_; rintro e w' ⟨rfl, rfl⟩)
            | (go_at_call 19; refine (HNS.out _).mono ?_; rintro e w' ⟨rfl, rfl⟩)
            | (go_at_call 21; refine (HLN.out _).mono ?_; rintro e w' ⟨rfl, rfl⟩)
            | (go_at_call 24; refine (HIN.out _).mono ?_; rintro e w' ⟨rfl, rfl⟩)
            | (go_at_call 27; refine (HEN.out _).mono ?_; rintro e w' ⟨rfl, rfl⟩))
            go_step3
            refine then_goto ?_
            apply follow_on (l := 5) (n := 0)
            · rfl
            go_wp2_with (first
              | (go_at_call 24; refine (HIN.out _).mono ?_; rintro e w' ⟨rfl, rfl⟩)
              | (at_builtin; refine wpList_append_lies _ rfl (.tmp 87) (.tmp 94) 25 rfl w.heap.size 29 i0 (.agg #[.int .i64 0, .string ⟨#[]⟩, .int .i64 0]) 3 32 Tryd.underlying25 hi hz0 hz1 hz2 rfl (by decide) (.slice av ts.length cv) ts.length (tokCells s ts) rfl HOL.out ⟨wr.heap.size, 0, none⟩ 1 1 [.int .i64 kk, .string pc, .int .i64 (r : Int)] rfl rfl HNB.out (by simp [Value.oneCell']) (by omega) (by unfold maxLen; omega) (by omega) (by simp; omega) _ rfl ?_))
            intro g cap w1 hown1 hgrow hat hltg
            have hb1 : Below w.heap.size w w1 := (HBEL.out.alloc hBs _).grown hgrow (by simp; omega) (own_ge HOL.out)
            have R : TokSt s w e (ts ++ [⟨kk, r, e⟩]) (.slice (some ⟨g, 0, none⟩) (ts.length + 1) cap) w1 :=
              tok_next (t := ⟨kk, r, e⟩) HL.out hpr hlt hlen HRES.out HP.out HN.out HT.out (by simp only [tokCell]; rw [HPC.out]; exact hown1) hb1
            clear hown1 hgrow hat hltg hb1 HOL HNB HT HRES HP HN HOWN HBEL hEr
            go_wp2_with (go_at_call 27; refine (HEN.out _).mono ?_; rintro e w' ⟨rfl, rfl⟩)
            go_step3
            exact follow_back ⟨TokJ_of _ rfl R, by show s.size - (intOf (.int .i64 (e : Int))).toNat < s.size - (intOf (.int .i64 (p : Int))).toNat; simp [intOf]; omega⟩
        · rw [if_neg h20] at HT
          have hgt : decide ((20 : Int) < (e : Int) - (r : Int)) = true := decide_eq_true (by omega)
          have P : TokPost s w (.returned (.tuple #[.slice none 0 0, .int .i64 (r : Int), .int .i64 2])) wr :=
            ⟨HBEL.out, .inr ⟨r, 2, by unfold tokAns; rw [if_neg (by have := HL.out; omega)]; exact ans_bad HRES.out HP.out hlt' (HN.out hlt') HT.out, rfl⟩⟩
          clear HT HRES HP HN HOWN HBEL hEr
          cases hbg : inB 65 90 s[r]
          · have hsm : inB 97 122 s[r] = true := by rw [isBig_inB, isSml_inB, hbg] at hnm; simpa using hnm
            clear hnm hnam
            go_wp2_with (first
            | (go_at_call 15; refine (isBigLetter_any s[r] _).mono ?_; rintro e w' ⟨rfl, rfl⟩)
            | (go_at_call 16; refine (isSmallLetter_any s[r] _).mono ?_; rintro e w' ⟨rfl, rfl⟩)
            | (go_at_call 17; refine (isDigit_any s[r] _).mono ?_; rintro e w' ⟨rfl, rfl⟩)
            | (go_at_call 18; refine (HNK.out _).mono ?_; rintro e w' ⟨rfl, rfl⟩)
            | (go_at_call 20; refine (HNE.out _).mono ?_; rintro e w' ⟨rfl, rfl⟩)
            | (go_at_call 19; refine (HNS.out _).mono ?_; rintro e w' ⟨rfl, rfl⟩)
            | (go_at_call 21; refine (HLN.out _).mono ?_; rintro e w' ⟨rfl, rfl⟩)
            | (go_at_call 24; refine (HIN.out _).mono ?_; rintro e w' ⟨rfl, rfl⟩)
            | (go_at_call 27; refine (HEN.out _).mono ?_; rintro e w' ⟨rfl, rfl⟩))
            go_step3
            refine inBlock_goto (then_goto ?_)
            apply follow_on (l := 1) (n := 1)
            · rfl
            go_wp2_with (first
            | (go_at_call 15; refine (isBigLetter_any s[r] _).mono ?_; rintro e w' ⟨rfl, rfl⟩)
            | (go_at_call 16; refine (isSmallLetter_any s[r] _).mono ?_; rintro e w' ⟨rfl, rfl⟩)
            | (go_at_call 17; refine (isDigit_any s[r] _).mono ?_; rintro e w' ⟨rfl, rfl⟩)
            | (go_at_call 18; refine (HNK.out _).mono ?_; rintro e w' ⟨rfl, rfl⟩)
            | (go_at_call 20; refine (HNE.out _).mono ?_; rintro e w' ⟨rfl, rfl⟩)
            | (go_at_call 19; refine (HNS.out _).mono ?_; rintro e w' ⟨rfl, rfl⟩)
            | (go_at_call 21; refine (HLN.out _).mono ?_; rintro e w' ⟨rfl, rfl⟩)
            | (go_at_call 24; refine (HIN.out _).mono ?_; rintro e w' ⟨rfl, rfl⟩)
            | (go_at_call 27; refine (HEN.out _).mono ?_; rintro e w' ⟨rfl, rfl⟩))
            apply follow_ret
            go_ret3
            exact P
          · clear hnm hnam
            go_wp2_with (first
            | (go_at_call 15; refine (isBigLetter_any s[r] _).mono ?_; rintro e w' ⟨rfl, rfl⟩)
            | (go_at_call 16; refine (isSmallLetter_any s[r] _).mono ?_; rintro e w' ⟨rfl, rfl⟩)
            | (go_at_call 17; refine (isDigit_any s[r] _).mono ?_; rintro e w' ⟨rfl, rfl⟩)
            | (go_at_call 18; refine (HNK.out _).mono ?_; rintro e w' ⟨rfl, rfl⟩)
            | (go_at_call 20; refine (HNE.out _).mono ?_; rintro e w' ⟨rfl, rfl⟩)
            | (go_at_call 19; refine (HNS.out _).mono ?_; rintro e w' ⟨rfl, rfl⟩)
            | (go_at_call 21; refine (HLN.out _).mono ?_; rintro e w' ⟨rfl, rfl⟩)
            | (go_at_call 24; refine (HIN.out _).mono ?_; rintro e w' ⟨rfl, rfl⟩)
            | (go_at_call 27; refine (HEN.out _).mono ?_; rintro e w' ⟨rfl, rfl⟩))
            go_step3
            refine inBlock_goto (then_goto ?_)
            apply follow_on (l := 1) (n := 1)
            · rfl
            go_wp2_with (first
            | (go_at_call 15; refine (isBigLetter_any s[r] _).mono ?_; rintro e w' ⟨rfl, rfl⟩)
            | (go_at_call 16; refine (isSmallLetter_any s[r] _).mono ?_; rintro e w' ⟨rfl, rfl⟩)
            | (go_at_call 17; refine (isDigit_any s[r] _).mono ?_; rintro e w' ⟨rfl, rfl⟩)
            | (go_at_call 18; refine (HNK.out _).mono ?_; rintro e w' ⟨rfl, rfl⟩)
            | (go_at_call 20; refine (HNE.out _).mono ?_; rintro e w' ⟨rfl, rfl⟩)
            | (go_at_call 19; refine (HNS.out _).mono ?_; rintro e w' ⟨rfl, rfl⟩)
            | (go_at_call 21; refine (HLN.out _).mono ?_; rintro e w' ⟨rfl, rfl⟩)
            | (go_at_call 24; refine (HIN.out _).mono ?_; rintro e w' ⟨rfl, rfl⟩)
            | (go_at_call 27; refine (HEN.out _).mono ?_; rintro e w' ⟨rfl, rfl⟩))
            apply follow_ret
            go_ret3
            exact P
      · have hnm : (isBig s[r] || isSml s[r]) = false := by simpa using hnm
        have hbg : inB 65 90 s[r] = false := by rw [Bool.or_eq_false_iff] at hnm; exact hnm.1
        have hsm : inB 97 122 s[r] = false := by rw [Bool.or_eq_false_iff] at hnm; exact hnm.2
        by_cases hdg : isDig s[r] = true
        · have HT := Lib.hid (tokAt_num hlt' hnm hdg)
          have hel := stopAt_le isDig (lst s) (r + 1) (by omega)
          have HDE := Lib.hid (fun W => digitsEnd_any s (by omega) r hr W)
          rw [stopAt_succ hlt' hdg] at HDE
          rw [isDig_inB] at hdg
          have HTK := Lib.hid (fun W hW => implTermKind (s.extract r (stopAt isDig (lst s) (r + 1))) (by have := extract_le s r (stopAt isDig (lst s) (r + 1)); omega) W hW)
          rw [lst_extract] at HTK
          generalize iKind (((lst s).drop r).take (stopAt isDig (lst s) (r + 1) - r)) = ik at *
          generalize stopAt isDig (lst s) (r + 1) = e at *
          obtain ⟨he1, he2⟩ := hel
          have hes : e ≤ s.size := by have := HL.out; omega
          have HNS := Lib.hid (fun W => newSpan_any r e (by omega) (by omega) W)
          have HIN := Lib.hid (fun W => spanIn_any s r (e - r) (by omega) (by omega) (by omega) (by omega) W)
          have HEN := Lib.hid (fun W => spanEnd_any r (e - r) (by omega) (by omega) W)
          rw [show r + (e - r) = e from by omega] at HIN HEN
          generalize spanV r (e - r) = sp at *
          generalize hpc : s.extract r e = pc at *
          have HPC := Lib.hid hpc
          clear hpc hnm
          by_cases hik : ik = 1
          · rw [if_pos hik] at HT
            have hik2 : (ik != 1) = false := by rw [hik]; rfl
            clear hik
            go_wp2_with (first
              | (go_at_call 15; refine (isBigLetter_any s[r] _).mono ?_; rintro e w' ⟨rfl, rfl⟩)
              | (go_at_call 16; refine (isSmallLetter_any s[r] _).mono ?_; rintro e w' ⟨rfl, rfl⟩)
              | (go_at_call 17; refine (isDigit_any s[r] _).mono ?_; rintro e w' ⟨rfl, rfl⟩))
            go_step3
            refine inBlock_goto (then_goto ?_)
            apply follow_on (l := 2) (n := 1)
            · rfl
            go_wp2_with (first
              | (go_at_call 22; refine (HDE.out _).mono ?_; rintro e w' ⟨rfl, rfl⟩)
              | (go_at_call 19; refine (HNS.out _).mono ?_; rintro e w' ⟨rfl, rfl⟩)
              | (go_at_call 24; refine (HIN.out _).mono ?_; rintro e w' ⟨rfl, rfl⟩)
              | (go_at_call 21; refine (HLN.out _).mono ?_; rintro e w' ⟨rfl, rfl⟩)
              | (go_at_call 23; refine (HTK.out _ hEr).mono ?_; rintro e w2 ⟨rfl, hb2⟩))
            have hb3 : Below w.heap.size w w2 := HBEL.out.trans (hb2.mono hBs)
            have hBs2 := hb3.size
            have HB3 := Lib.hid hb3
            have hol := (row_kept HOWN.out hb2).alloc (.cells #[.int .i64 3, .string pc, .int .i64 (r : Int)] 29)
            have hnb := World.news_of_block (cs := #[.int .i64 3, .string pc, .int .i64 (r : Int)]) (t := 29) (fr := (0, 0)) (heap_alloc_new w2 _)
            have HOL := Lib.hid hol
            have HNB := Lib.hid hnb
            clear hol hnb hb2 hb3
            go_step3
            refine then_goto ?_
            apply follow_on (l := 5) (n := 0)
            · rfl
            go_wp2_with (first
              | (go_at_call 24; refine (HIN.out _).mono ?_; rintro e w' ⟨rfl, rfl⟩)
              | (at_builtin; refine wpList_append_lies _ rfl (.tmp 87) (.tmp 94) 25 rfl w.heap.size 29 i0 (.agg #[.int .i64 0, .string ⟨#[]⟩, .int .i64 0]) 3 32 Tryd.underlying25 hi hz0 hz1 hz2 rfl (by decide) (.slice av ts.length cv) ts.length (tokCells s ts) rfl HOL.out ⟨w2.heap.size, 0, none⟩ 1 1 [.int .i64 3, .string pc, .int .i64 (r : Int)] rfl rfl HNB.out (by simp [Value.oneCell']) (by omega) (by unfold maxLen; omega) (by omega) (by simp; omega) _ rfl ?_))
            intro g cap w1 hown1 hgrow hat hltg
            have hb1 : Below w.heap.size w w1 := (HB3.out.alloc hBs2 _).grown hgrow (by simp; omega) (own_ge HOL.out)
            have R : TokSt s w e (ts ++ [⟨3, r, e⟩]) (.slice (some ⟨g, 0, none⟩) (ts.length + 1) cap) w1 :=
              tok_next (t := ⟨3, r, e⟩) HL.out hpr hlt hlen HRES.out HP.out HN.out HT.out (by simp only [tokCell]; rw [HPC.out]; exact hown1) hb1
            clear hown1 hgrow hat hltg hb1 HOL HNB HT HRES HP HN HOWN HBEL HB3 hEr
            go_wp2_with (go_at_call 27; refine (HEN.out _).mono ?_; rintro e w' ⟨rfl, rfl⟩)
            go_step3
            exact follow_back ⟨TokJ_of _ rfl R, by show s.size - (intOf (.int .i64 (e : Int))).toNat < s.size - (intOf (.int .i64 (p : Int))).toNat; simp [intOf]; omega⟩
          · rw [if_neg hik] at HT
            have hik2 : (ik != 1) = true := by simp [hik]
            clear hik
            go_wp2_with (first
              | (go_at_call 15; refine (isBigLetter_any s[r] _).mono ?_; rintro e w' ⟨rfl, rfl⟩)
              | (go_at_call 16; refine (isSmallLetter_any s[r] _).mono ?_; rintro e w' ⟨rfl, rfl⟩)
              | (go_at_call 17; refine (isDigit_any s[r] _).mono ?_; rintro e w' ⟨rfl, rfl⟩))
            go_step3
            refine inBlock_goto (then_goto ?_)
            apply follow_on (l := 2) (n := 1)
            · rfl
            go_wp2_with (first
              | (go_at_call 22; refine (HDE.out _).mono ?_; rintro e w' ⟨rfl, rfl⟩)
              | (go_at_call 19; refine (HNS.out _).mono ?_; rintro e w' ⟨rfl, rfl⟩)
              | (go_at_call 24; refine (HIN.out _).mono ?_; rintro e w' ⟨rfl, rfl⟩)
              | (go_at_call 23; refine (HTK.out _ hEr).mono ?_; rintro e w2 ⟨rfl, hb2⟩))
            have P : TokPost s w (.returned (.tuple #[.slice none 0 0, .int .i64 (r : Int), .int .i64 4])) w2 :=
              ⟨HBEL.out.trans (hb2.mono hBs), .inr ⟨r, 4, by unfold tokAns; rw [if_neg (by have := HL.out; omega)]; exact ans_bad HRES.out HP.out hlt' (HN.out hlt') HT.out, rfl⟩⟩
            clear HT HRES HP HN HOWN HBEL hEr hb2
            apply follow_ret
            go_ret3
            exact P
        · have hdg : isDig s[r] = false := by simpa using hdg
          have hdg' : inB 48 57 s[r] = false := hdg
          by_cases h34 : s[r].toNat = 34
          · have h34b : ((s[r].toNat : Int) == 34) = true := by rw [h34]; rfl
            have HT := Lib.hid (tokAt_sym2 hlt' hnm hdg h34)
            have hel := behind_le 34 (l := lst s) (p := r + 1) (by omega)
            have HEB := Lib.hid (fun W => endBehind_any s (by omega) (r + 1) (by omega) 34 (by omega) W)
            rw [show ((r + 1 : Nat) : Int) = (r : Int) + 1 from by omega] at HEB
            have HTK := Lib.hid (fun W hW => implTermKind (s.extract r (behind 34 (lst s) (r + 1))) (by have := extract_le s r (behind 34 (lst s) (r + 1)); omega) W hW)
            rw [lst_extract] at HTK
            generalize iKind (((lst s).drop r).take (behind 34 (lst s) (r + 1) - r)) = ik at *
            generalize behind 34 (lst s) (r + 1) = e at *
            obtain ⟨he1, he2⟩ := hel
            have hes : e ≤ s.size := by have := HL.out; omega
            have HNS := Lib.hid (fun W => newSpan_any r e (by omega) (by omega) W)
            have HIN := Lib.hid (fun W => spanIn_any s r (e - r) (by omega) (by omega) (by omega) (by omega) W)
            have HEN := Lib.hid (fun W => spanEnd_any r (e - r) (by omega) (by omega) W)
            rw [show r + (e - r) = e from by omega] at HIN HEN
            generalize spanV r (e - r) = sp at *
            generalize hpc : s.extract r e = pc at *
            have HPC := Lib.hid hpc
            clear hpc hnm hdg h34
            by_cases hik : ik = 2
            · rw [if_pos hik] at HT
              have hik2 : (ik != 2) = false := by rw [hik]; rfl
              clear hik
              go_wp2_with (first
              | (go_at_call 15; refine (isBigLetter_any s[r] _).mono ?_; rintro e w' ⟨rfl, rfl⟩)
              | (go_at_call 16; refine (isSmallLetter_any s[r] _).mono ?_; rintro e w' ⟨rfl, rfl⟩)
              | (go_at_call 17; refine (isDigit_any s[r] _).mono ?_; rintro e w' ⟨rfl, rfl⟩))
              go_step3
              refine inBlock_goto (then_goto ?_)
              apply follow_on (l := 3) (n := 1)
              · rfl
              go_wp2_with (first
                | (go_at_call 25; refine (HEB.out _).mono ?_; rintro e w' ⟨rfl, rfl⟩)
                | (go_at_call 19; refine (HNS.out _).mono ?_; rintro e w' ⟨rfl, rfl⟩)
                | (go_at_call 24; refine (HIN.out _).mono ?_; rintro e w' ⟨rfl, rfl⟩)
                | (go_at_call 21; refine (HLN.out _).mono ?_; rintro e w' ⟨rfl, rfl⟩)
                | (go_at_call 23; refine (HTK.out _ hEr).mono ?_; rintro e w2 ⟨rfl, hb2⟩))
              have hb3 : Below w.heap.size w w2 := HBEL.out.trans (hb2.mono hBs)
              have hBs2 := hb3.size
              have HB3 := Lib.hid hb3
              have hol := (row_kept HOWN.out hb2).alloc (.cells #[.int .i64 4, .string pc, .int .i64 (r : Int)] 29)
              have hnb := World.news_of_block (cs := #[.int .i64 4, .string pc, .int .i64 (r : Int)]) (t := 29) (fr := (0, 0)) (heap_alloc_new w2 _)
              have HOL := Lib.hid hol
              have HNB := Lib.hid hnb
              clear hol hnb hb2 hb3
              go_step3
              refine then_goto ?_
              apply follow_on (l := 5) (n := 0)
              · rfl
              go_wp2_with (first
                | (go_at_call 24; refine (HIN.out _).mono ?_; rintro e w' ⟨rfl, rfl⟩)
                | (at_builtin; refine wpList_append_lies _ rfl (.tmp 87) (.tmp 94) 25 rfl w.heap.size 29 i0 (.agg #[.int .i64 0, .string ⟨#[]⟩, .int .i64 0]) 3 32 Tryd.underlying25 hi hz0 hz1 hz2 rfl (by decide) (.slice av ts.length cv) ts.length (tokCells s ts) rfl HOL.out ⟨w2.heap.size, 0, none⟩ 1 1 [.int .i64 4, .string pc, .int .i64 (r : Int)] rfl rfl HNB.out (by simp [Value.oneCell']) (by omega) (by unfold maxLen; omega) (by omega) (by simp; omega) _ rfl ?_))
              intro g cap w1 hown1 hgrow hat hltg
              have hb1 : Below w.heap.size w w1 := (HB3.out.alloc hBs2 _).grown hgrow (by simp; omega) (own_ge HOL.out)
              have R : TokSt s w e (ts ++ [⟨4, r, e⟩]) (.slice (some ⟨g, 0, none⟩) (ts.length + 1) cap) w1 :=
                tok_next (t := ⟨4, r, e⟩) HL.out hpr hlt hlen HRES.out HP.out HN.out HT.out (by simp only [tokCell]; rw [HPC.out]; exact hown1) hb1
              clear hown1 hgrow hat hltg hb1 HOL HNB HT HRES HP HN HOWN HBEL HB3 hEr
              go_wp2_with (go_at_call 27; refine (HEN.out _).mono ?_; rintro e w' ⟨rfl, rfl⟩)
              go_step3
              exact follow_back ⟨TokJ_of _ rfl R, by show s.size - (intOf (.int .i64 (e : Int))).toNat < s.size - (intOf (.int .i64 (p : Int))).toNat; simp [intOf]; omega⟩
            · rw [if_neg hik] at HT
              have hik2 : (ik != 2) = true := by simp [hik]
              clear hik
              go_wp2_with (first
              | (go_at_call 15; refine (isBigLetter_any s[r] _).mono ?_; rintro e w' ⟨rfl, rfl⟩)
              | (go_at_call 16; refine (isSmallLetter_any s[r] _).mono ?_; rintro e w' ⟨rfl, rfl⟩)
              | (go_at_call 17; refine (isDigit_any s[r] _).mono ?_; rintro e w' ⟨rfl, rfl⟩))
              go_step3
              refine inBlock_goto (then_goto ?_)
              apply follow_on (l := 3) (n := 1)
              · rfl
              go_wp2_with (first
                | (go_at_call 25; refine (HEB.out _).mono ?_; rintro e w' ⟨rfl, rfl⟩)
                | (go_at_call 19; refine (HNS.out _).mono ?_; rintro e w' ⟨rfl, rfl⟩)
                | (go_at_call 24; refine (HIN.out _).mono ?_; rintro e w' ⟨rfl, rfl⟩)
                | (go_at_call 23; refine (HTK.out _ hEr).mono ?_; rintro e w2 ⟨rfl, hb2⟩))
              have P : TokPost s w (.returned (.tuple #[.slice none 0 0, .int .i64 (r : Int), .int .i64 3])) w2 :=
                ⟨HBEL.out.trans (hb2.mono hBs), .inr ⟨r, 3, by unfold tokAns; rw [if_neg (by have := HL.out; omega)]; exact ans_bad HRES.out HP.out hlt' (HN.out hlt') HT.out, rfl⟩⟩
              clear HT HRES HP HN HOWN HBEL hEr hb2
              apply follow_ret
              go_ret3
              exact P
          · have h34b : ((s[r].toNat : Int) == 34) = false := by simp; omega
            have HT := Lib.hid (tokAt_sgn hlt' hnm hdg h34)
            have hsl := sgn_le ((lst s).drop r)
            rw [List.length_drop] at hsl
            have HSE := Lib.hid (fun W => signEnd_any s (by omega) r hlt W)
            generalize sgn ((lst s).drop r) = n at *
            have hes : r + n ≤ s.size := by have := HL.out; omega
            clear hsl hnm hdg h34
            obtain ⟨e, he⟩ : ∃ e, e = r + n := ⟨_, rfl⟩
            obtain ⟨he1, hn⟩ : r ≤ e ∧ n = e - r := by omega
            rw [← he] at HT HSE hes
            subst hn
            clear he
            have HNS := Lib.hid (fun W => newSpan_any r e (by omega) (by omega) W)
            have HLN := Lib.hid (fun W => spanLen_any r (e - r) (by omega) W)
            have HIN := Lib.hid (fun W => spanIn_any s r (e - r) (by omega) (by omega) (by omega) (by omega) W)
            have HEN := Lib.hid (fun W => spanEnd_any r (e - r) (by omega) (by omega) W)
            rw [show r + (e - r) = e from by omega] at HIN HEN
            generalize spanV r (e - r) = sp at *
            generalize hpc : s.extract r e = pc at *
            have HPC := Lib.hid hpc
            clear hpc
            have hcast : ((e - r : Nat) : Int) = (e : Int) - (r : Int) := by omega
            rw [hcast] at HLN
            clear hcast
            by_cases hz : e - r = 0
            · rw [if_pos hz] at HT
              have hik2 : ((e : Int) - (r : Int) == 0) = true := by simp; omega
              clear hz
              go_wp2_with (first
              | (go_at_call 15; refine (isBigLetter_any s[r] _).mono ?_; rintro e w' ⟨rfl, rfl⟩)
              | (go_at_call 16; refine (isSmallLetter_any s[r] _).mono ?_; rintro e w' ⟨rfl, rfl⟩)
              | (go_at_call 17; refine (isDigit_any s[r] _).mono ?_; rintro e w' ⟨rfl, rfl⟩))
              go_step3
              refine then_goto ?_
              apply follow_on (l := 4) (n := 1)
              · rfl
              go_wp2_with (first
                | (go_at_call 26; refine (HSE.out _).mono ?_; rintro e w2 ⟨rfl, hb2⟩)
                | (go_at_call 19; refine (HNS.out _).mono ?_; rintro e w' ⟨rfl, rfl⟩)
                | (go_at_call 21; refine (HLN.out _).mono ?_; rintro e w' ⟨rfl, rfl⟩))
              have P : TokPost s w (.returned (.tuple #[.slice none 0 0, .int .i64 (r : Int), .int .i64 2])) w2 :=
                ⟨HBEL.out.trans (hb2.mono hBs), .inr ⟨r, 2, by unfold tokAns; rw [if_neg (by have := HL.out; omega)]; exact ans_bad HRES.out HP.out hlt' (HN.out hlt') HT.out, rfl⟩⟩
              clear HT HRES HP HN HOWN HBEL hEr hb2
              apply follow_ret
              go_ret3
              exact P
            · rw [if_neg hz] at HT
              have hik2 : ((e : Int) - (r : Int) == 0) = false := by simp; omega
              have hre : r < e := by omega
              clear hz
              go_wp2_with (first
              | (go_at_call 15; refine (isBigLetter_any s[r] _).mono ?_; rintro e w' ⟨rfl, rfl⟩)
              | (go_at_call 16; refine (isSmallLetter_any s[r] _).mono ?_; rintro e w' ⟨rfl, rfl⟩)
              | (go_at_call 17; refine (isDigit_any s[r] _).mono ?_; rintro e w' ⟨rfl, rfl⟩))
              go_step3
              refine then_goto ?_
              apply follow_on (l := 4) (n := 1)
              · rfl
              go_wp2_with (first
                | (go_at_call 26; refine (HSE.out _).mono ?_; rintro e w2 ⟨rfl, hb2⟩)
                | (go_at_call 19; refine (HNS.out _).mono ?_; rintro e w' ⟨rfl, rfl⟩)
                | (go_at_call 21; refine (HLN.out _).mono ?_; rintro e w' ⟨rfl, rfl⟩))
              go_step3
              have hb3 : Below w.heap.size w w2 := HBEL.out.trans (hb2.mono hBs)
              have hBs2 := hb3.size
              have HB3 := Lib.hid hb3
              have hol := (row_kept HOWN.out hb2).alloc (.cells #[.int .i64 5, .string pc, .int .i64 (r : Int)] 29)
              have hnb := World.news_of_block (cs := #[.int .i64 5, .string pc, .int .i64 (r : Int)]) (t := 29) (fr := (0, 0)) (heap_alloc_new w2 _)
              have HOL := Lib.hid hol
              have HNB := Lib.hid hnb
              clear hol hnb hb2 hb3
              go_wp2_with (first
                | (go_at_call 24; refine (HIN.out _).mono ?_; rintro e w' ⟨rfl, rfl⟩)
                | (at_builtin; refine wpList_append_lies _ rfl (.tmp 87) (.tmp 94) 25 rfl w.heap.size 29 i0 (.agg #[.int .i64 0, .string ⟨#[]⟩, .int .i64 0]) 3 32 Tryd.underlying25 hi hz0 hz1 hz2 rfl (by decide) (.slice av ts.length cv) ts.length (tokCells s ts) rfl HOL.out ⟨w2.heap.size, 0, none⟩ 1 1 [.int .i64 5, .string pc, .int .i64 (r : Int)] rfl rfl HNB.out (by simp [Value.oneCell']) (by omega) (by unfold maxLen; omega) (by omega) (by simp; omega) _ rfl ?_))
              intro g cap w1 hown1 hgrow hat hltg
              have hb1 : Below w.heap.size w w1 := (HB3.out.alloc hBs2 _).grown hgrow (by simp; omega) (own_ge HOL.out)
              have R : TokSt s w e (ts ++ [⟨5, r, e⟩]) (.slice (some ⟨g, 0, none⟩) (ts.length + 1) cap) w1 :=
                tok_next (t := ⟨5, r, e⟩) HL.out hpr hlt hlen HRES.out HP.out HN.out HT.out (by simp only [tokCell]; rw [HPC.out]; exact hown1) hb1
              clear hown1 hgrow hat hltg hb1 HOL HNB HT HRES HP HN HOWN HBEL HB3 hEr
              go_wp2_with (go_at_call 27; refine (HEN.out _).mono ?_; rintro e w' ⟨rfl, rfl⟩)
              go_step3
              exact follow_back ⟨TokJ_of _ rfl R, by show s.size - (intOf (.int .i64 (e : Int))).toNat < s.size - (intOf (.int .i64 (p : Int))).toNat; simp [intOf]; omega⟩
    · obtain rfl : r = s.size := by omega
      have P : TokPost s w (.returned (.tuple #[.slice av ts.length cv, .int .i64 0, .int .i64 0])) wr :=
        ⟨HBEL.out, .inl ⟨ts, _, by unfold tokAns; rw [if_neg (by have := HL.out; omega)]; exact ans_end HRES.out HP.out (by have := HL.out; omega), rfl, HOWN.out⟩⟩
      go_wp2
      apply follow_ret
      go_ret3
      exact P
end Go.Proofs.YtngnmfoephegmaaDoor
