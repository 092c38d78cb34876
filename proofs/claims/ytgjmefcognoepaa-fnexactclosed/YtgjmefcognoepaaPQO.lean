/-
  THE LAWS' OWN MARKING of an answer that is a list of graphs, and the look at what was written.
-/
import Derived.Test.YtgjmefcognoepaaPQN
namespace Go.Proofs.Ytgjmefcognoepaa.Pr
open Go Go.RowKit Go.Maps Go.WideMaps

abbrev ArcRow (w : World) (B : Nat) (v : Value) (n : Nat) (l : List Ar) : Prop := w.ownsRow B 59 3 v n (arcCells l)

theorem own_count {w : World} {B : Nat} {e : TypeId} {size n m c : Nat} {a : Option Addr} {xs : List Value} (h : w.ownsRow B e size (.slice a n c) m xs) : n = m := by
  obtain ⟨_, _, he⟩ := owns_shape h
  simp only [Value.slice.injEq] at he
  exact he.2.1
theorem gsCells_app (a b : List (Gr × Value)) : gsCells (a ++ b) = gsCells a ++ gsCells b := by simp [gsCells]
theorem gsCells_set (ds rs : List (Gr × Value)) (p : Gr × Value) (x y : Int) : ((gsCells (ds ++ p :: rs)).set (ds.length * 3) (.int .i64 x)).set (ds.length * 3 + 1) (.int .i64 y) = gsCells (ds ++ (⟨x, y, p.1.rs⟩, p.2) :: rs) := by
  have hl := gsCells_len ds
  rw [gsCells_app, gsCells_app, List.set_append_right _ _ (by omega), List.set_append_right _ _ (by omega), hl, Nat.sub_self, show ds.length * 3 + 1 - ds.length * 3 = 1 by omega]
  rfl
theorem gs_apart {ds rs : List (Gr × Value)} {p q : Gr × Value} (hv : q.2 = p.2) {R : Value → Value → Prop} (h : (ds ++ p :: rs).Pairwise fun a b => R a.2 b.2) : (ds ++ q :: rs).Pairwise fun a b => R a.2 b.2 := by
  have e : (ds ++ q :: rs).map Prod.snd = (ds ++ p :: rs).map Prod.snd := by simp [hv]
  rw [← List.pairwise_map] at h ⊢
  rw [e]
  exact h
theorem OwnGS.setFT {B : Nat} {w : World} {g c n : Nat} {ds rs : List (Gr × Value)} {p : Gr × Value} (h : OwnGS B w (.slice (some ⟨g, 0, none⟩) n c) (ds ++ p :: rs)) (x y : Int) :
    OwnGS B ((w.setCell ⟨g, ds.length * 3, none⟩ (.int .i64 x)).setCell ⟨g, ds.length * 3 + 1, none⟩ (.int .i64 y)) (.slice (some ⟨g, 0, none⟩) n c) (ds ++ (⟨x, y, p.1.rs⟩, p.2) :: rs) := by
  have hn : n = (ds ++ p :: rs).length := own_count h.out
  subst hn
  have e1 := owns_set3 h.out (ds.length * 3) (.int .i64 x)
  have e2 := owns_set3 e1 (ds.length * 3 + 1) (.int .i64 y)
  rw [gsCells_set] at e2
  have hl : (ds ++ ((⟨x, y, p.1.rs⟩, p.2) : Gr × Value) :: rs).length = (ds ++ p :: rs).length := by simp
  have hmv : ∀ (v : Value) (m : Nat) (l : List Ar), ArcRow w B v m l → v.ownBlock ≠ some g → ArcRow ((w.setCell ⟨g, ds.length * 3, none⟩ (.int .i64 x)).setCell ⟨g, ds.length * 3 + 1, none⟩ (.int .i64 y)) B v m l := fun v m l hr hne => row_move hr fun b hb => by
    have hbg : b ≠ g := fun e => hne (by rw [hb, e])
    rw [heap_setCell_other _ ⟨g, ds.length * 3 + 1, none⟩ b _ hbg, heap_setCell_other _ ⟨g, ds.length * 3, none⟩ b _ hbg]
  have HA : (ds ++ ((⟨x, y, p.1.rs⟩, p.2) : Gr × Value) :: rs).Pairwise (fun a b => ∀ g, a.2.ownBlock = some g → b.2.ownBlock ≠ some g) := gs_apart (p := p) (q := (⟨x, y, p.1.rs⟩, p.2)) (R := fun a b => ∀ g, a.ownBlock = some g → b.ownBlock ≠ some g) rfl h.apart
  refine ⟨by rw [hl]; exact e2, ?_, HA, ?_⟩
  · intro q hq
    rcases List.mem_append.1 hq with hq | hq
    · exact hmv _ _ _ (h.inn q (by simp [hq])) (h.off q (by simp [hq]) g rfl)
    · rcases List.mem_cons.1 hq with rfl | hq
      · exact hmv _ _ _ (h.inn p (by simp)) (h.off p (by simp) g rfl)
      · exact hmv _ _ _ (h.inn q (by simp [hq])) (h.off q (by simp [hq]) g rfl)
  · intro q hq b hb
    rcases List.mem_append.1 hq with hq | hq
    · exact h.off q (by simp [hq]) b hb
    · rcases List.mem_cons.1 hq with rfl | hq
      · exact h.off p (by simp) b hb
      · exact h.off q (by simp [hq]) b hb
theorem OwnGS.setRs {B : Nat} {w w' : World} {v : Value} {ds rs : List (Gr × Value)} {p : Gr × Value} (h : OwnGS B w v (ds ++ p :: rs)) {l : List Ar} (hl : l.length = p.1.rs.length) (hr : ArcRow w' B p.2 p.1.rs.length l) (hk : ∀ b, p.2.ownBlock ≠ some b → w'.heap[b]? = w.heap[b]?) :
    OwnGS B w' v (ds ++ (⟨p.1.f, p.1.t, l⟩, p.2) :: rs) := by
  have hap := List.pairwise_append.1 h.apart
  have hcons := List.pairwise_cons.1 hap.2.1
  have he : gsCells (ds ++ ((⟨p.1.f, p.1.t, l⟩, p.2) : Gr × Value) :: rs) = gsCells (ds ++ p :: rs) := by rw [gsCells_app, gsCells_app]; rfl
  have hlen : (ds ++ ((⟨p.1.f, p.1.t, l⟩, p.2) : Gr × Value) :: rs).length = (ds ++ p :: rs).length := by simp
  have HA : (ds ++ ((⟨p.1.f, p.1.t, l⟩, p.2) : Gr × Value) :: rs).Pairwise (fun a b => ∀ g, a.2.ownBlock = some g → b.2.ownBlock ≠ some g) := gs_apart (p := p) (q := (⟨p.1.f, p.1.t, l⟩, p.2)) (R := fun a b => ∀ g, a.ownBlock = some g → b.ownBlock ≠ some g) rfl h.apart
  refine ⟨?_, ?_, HA, ?_⟩
  · rw [hlen, he]
    exact row_move h.out fun b hb => hk b (h.off p (by simp) b hb)
  · intro q hq
    rcases List.mem_append.1 hq with hq | hq
    · exact row_move (h.inn q (by simp [hq])) fun b hb => hk b (hap.2.2 q hq p (by simp) b hb)
    · rcases List.mem_cons.1 hq with rfl | hq
      · show ArcRow w' B p.2 l.length l
        rw [hl]; exact hr
      · exact row_move (h.inn q (by simp [hq])) fun b hb => hk b (fun hp => hcons.1 q hq b hp hb)
  · intro q hq b hb
    rcases List.mem_append.1 hq with hq | hq
    · exact h.off q (by simp [hq]) b hb
    · rcases List.mem_cons.1 hq with rfl | hq
      · exact h.off p (by simp) b hb
      · exact h.off q (by simp [hq]) b hb

/-- From k on to z the list bears the marks. -/
def Marked : Int → List (Gr × Value) → Int → Prop
  | k, [], z => z = k
  | k, p :: r, z => p.1.f = k ∧ p.1.t = k + 1 ∧ p.1.rs = mksA (k + 1 + 1) p.1.rs.length ∧ Marked (k + 1 + 1 + 3 * (p.1.rs.length : Int)) r z
theorem Marked.snoc : ∀ {l : List (Gr × Value)} {k z : Int}, Marked k l z → ∀ (n : Nat) (v : Value), Marked k (l ++ [(⟨z, z + 1, mksA (z + 1 + 1) n⟩, v)]) (z + 1 + 1 + 3 * (n : Int))
  | [], k, z, h, n, v => by
    have h' : z = k := h
    subst h'
    refine ⟨rfl, rfl, ?_, ?_⟩
    · show mksA (z + 1 + 1) n = mksA (z + 1 + 1) (mksA (z + 1 + 1) n).length
      rw [mksA_len]
    · show z + 1 + 1 + 3 * (n : Int) = z + 1 + 1 + 3 * ((mksA (z + 1 + 1) n).length : Int)
      rw [mksA_len]
  | p :: r, k, z, h, n, v => by
    obtain ⟨h1, h2, h3, h4⟩ := h
    exact ⟨h1, h2, h3, h4.snoc n v⟩

def MGO (w : World) (B : Nat) (v : Value) (n : Nat) (v1 v5 : Value) (wr : World) : Prop := ∃ (i : Nat) (z : Int) (ds rs : List (Gr × Value)), v5 = .int .i64 (i : Int) ∧ v1 = .int .i64 z ∧ ds.length = i ∧ i + rs.length = n ∧ Marked 1 ds z ∧ 1 ≤ z ∧ z ≤ 1 + 3145730 * i ∧ (∀ p ∈ ds ++ rs, p.1.rs.length ≤ 1048576) ∧ OwnGS B wr v (ds ++ rs) ∧ Below B w wr

set_option maxRecDepth 100000 in
set_option maxHeartbeats 2000000 in
theorem markGraphS_own (xs : List (Gr × Value)) (B : Nat) (a : Option Addr) (cap : Nat) (w : World) (h : OwnGS B w (.slice a xs.length cap) xs) (hl : ∀ p ∈ xs, p.1.rs.length ≤ 1048576) (hn : xs.length ≤ 1048576) :
    Calls Try.prog 9 #[.slice a xs.length cap, .int .i64 1] w fun e w' => ∃ (z : Int) (ys : List (Gr × Value)), e = .returned (.int .i64 z) ∧ 1 ≤ z ∧ Marked 1 ys z ∧ ys.length = xs.length ∧ (∀ p ∈ ys, p.1.rs.length ≤ 1048576) ∧ OwnGS B w' (.slice a xs.length cap) ys ∧ Below B w w' := by
  have HST := Lib.hid (show MGO w B (.slice a xs.length cap) xs.length (.int .i64 1) (.int .i64 0) w from ⟨0, 1, [], xs, rfl, rfl, rfl, by omega, rfl, by omega, by omega, hl, h, Below.refl _ _⟩)
  clear h hl
  obtain ⟨n, hxn⟩ : ∃ n, xs.length = n := ⟨_, rfl⟩
  rw [hxn] at HST hn ⊢
  clear hxn xs
  go_enter Try.func9, Try.ntmps9
  go_wp2
  go_loopw [1, 5] (fun v1 v5 wr => MGO w B (.slice a n cap) n v1 v5 wr) (fun _ v5 _ => (n - (intOf v5).toNat))
  case atStart => exact HST.out
  case round =>
    obtain ⟨i, z, ds, rs, rfl, rfl, hdl, hrl, hmk, hz1, hz2, hlen, hO, hb⟩ := hrel
    clear HST
    by_cases hlt : i < n
    · have hd : decide ((i : Int) < (n : Int)) = true := decide_eq_true (by omega)
      obtain ⟨p, rs, rfl⟩ : ∃ p r, rs = p :: r := by
        cases rs with
        | nil => simp at hrl; omega
        | cons p r => exact ⟨p, r, rfl⟩
      have hix : i < (ds ++ p :: rs).length := by simp; omega
      have hgx : (ds ++ p :: rs)[i] = p := by
        subst hdl
        simp
      obtain ⟨g, ar, cr, rfl, hbg, hgl, hp2, c0, c1, c2, -⟩ := hO.at hix
      rw [hgx] at hp2 c0 c1 c2
      have hpl : p.1.rs.length ≤ 1048576 := hlen p (by simp)
      have hO2 := hO.setFT z (z + 1)
      rw [hdl] at hO2
      have hnn : n = (ds ++ p :: rs).length := own_count hO.out
      have hO1 : wr.ownsRow B 38 3 (.slice (some ⟨g, 0, none⟩) (ds ++ p :: rs).length cap) (ds ++ p :: rs).length (gsCells (ds ++ p :: rs)) := hnn ▸ hO.out
      have f0 := row_frozen hO1 (i * 3)
      have e1 := owns_set3 hO1 (i * 3) (.int .i64 z)
      have f1 := row_frozen e1 (i * 3 + 1)
      have d1 : (wr.setCell ⟨g, i * 3, none⟩ (.int .i64 z)).cell? ⟨g, i * 3 + 1, none⟩ = some (.int .i64 p.1.t) := by
        rw [World.cell?_setCell_other _ _ _ _ (by intro e; simp at e)]
        exact c1
      obtain ⟨w1, hw1⟩ : ∃ w1, wr.setCell ⟨g, i * 3, none⟩ (.int .i64 z) = w1 := ⟨_, rfl⟩
      rw [hw1] at e1 f1 d1 hO2
      obtain ⟨w2, hw2⟩ : ∃ w2, w1.setCell ⟨g, i * 3 + 1, none⟩ (.int .i64 (z + 1)) = w2 := ⟨_, rfl⟩
      rw [hw2] at hO2
      have hoff : Off (fun b => b = g) wr w2 := by rw [← hw2, ← hw1]; exact Off.set (S := fun b => b = g) (Off.set (S := fun b => b = g) (Off.refl _ wr) rfl _ _) rfl _ _
      have hb2 : Below B w w2 := ⟨hoff.os.trans hb.os, hoff.tape.trans hb.tape, hoff.output.trans hb.output, by rw [hoff.size]; exact hb.size, fun b hb' => (hoff.block b (fun e => by omega)).trans (hb.block b hb')⟩
      have e2 : w2.cell? ⟨g, i * 3 + 2, none⟩ = some (.slice ar p.1.rs.length cr) := by
        rw [← hw2, ← hw1, World.cell?_setCell_other _ _ _ _ (by intro e; simp at e), World.cell?_setCell_other _ _ _ _ (by intro e; simp at e)]
        exact c2
      have hin := hO2.inn (⟨z, z + 1, p.1.rs⟩, p.2) (by simp)
      have hin' : ArcRow w2 B (.slice ar p.1.rs.length cr) p.1.rs.length p.1.rs := hp2 ▸ hin
      have HMA := Lib.hid (markArcS_ownV p.1.rs (z + 1 + 1) (by omega) (by omega) B ar cr w2 hin' (by omega))
      have HP2 := Lib.hid hp2
      have HO2 := Lib.hid hO2
      have HB2 := Lib.hid hb2
      have HMK := Lib.hid hmk
      have HLEN := Lib.hid hlen
      have HDL := Lib.hid hdl
      have HRL := Lib.hid hrl
      clear e1 hO hO1 hO2 hb hb2 hin hin' hoff hnn hp2 hgx hix hmk hlen hdl hrl c1 c2
      go_wp2_with fail
      refine HMA.out.mono ?_
      rintro e w3 ⟨rfl, hr3, hs3, ho3, ht3, hu3, hk3⟩
      have HR := Lib.hid (show MGO w B (.slice (some ⟨g, 0, none⟩) n cap) n (.int .i64 (z + 1 + 1 + 3 * (p.1.rs.length : Int))) (.int .i64 ((i : Int) + 1)) w3 from by
        have hO3 := HO2.out.setRs (mksA_len (z + 1 + 1) p.1.rs.length) (HP2.out ▸ hr3) (HP2.out ▸ hk3)
        refine ⟨i + 1, _, ds ++ [(⟨z, z + 1, mksA (z + 1 + 1) p.1.rs.length⟩, p.2)], rs, by go_num, rfl, by have := HDL.out; simp; omega, by have := HRL.out; simp at this; omega, HMK.out.snoc _ _, by omega, by omega, ?_, by rw [List.append_assoc]; exact hO3, ?_⟩
        · intro q hq
          rw [List.append_assoc] at hq
          rcases List.mem_append.1 hq with hq | hq
          · exact HLEN.out q (by simp [hq])
          · rcases List.mem_cons.1 hq with rfl | hq
            · show (mksA (z + 1 + 1) p.1.rs.length).length ≤ _
              rw [mksA_len]; exact hpl
            · exact HLEN.out q (by have hq' : q ∈ rs := hq; simp [hq'])
        · refine ⟨ho3.trans HB2.out.os, ht3.trans HB2.out.tape, hu3.trans HB2.out.output, by rw [hs3]; exact HB2.out.size, fun b hb' => (hk3 b fun e => ?_).trans (HB2.out.block b hb')⟩
          have h9 := (own_lt3 (HO2.out.inn (⟨z, z + 1, p.1.rs⟩, p.2) (by simp)) (g := b) (by show p.2.ownBlock = some b; rw [HP2.out]; exact e)).1
          omega)
      clear hr3 hs3 ho3 ht3 hu3 hk3 HMA HO2 HB2 HMK HLEN HP2
      go_wp2
      go_roundw
      case rel => exact HR.out
      case measure => (simp [intOf] <;> omega)
    · obtain rfl : i = n := by omega
      have hd : decide ((i : Int) < (i : Int)) = false := by simp
      obtain rfl : rs = [] := List.length_eq_zero_iff.1 (by omega)
      rw [List.append_nil] at hlen hO
      have HP := Lib.hid (show ∃ (z' : Int) (ys : List (Gr × Value)), Ending.returned (.int .i64 z) = .returned (.int .i64 z') ∧ 1 ≤ z' ∧ Marked 1 ys z' ∧ ys.length = i ∧ (∀ p ∈ ys, p.1.rs.length ≤ 1048576) ∧ OwnGS B wr (.slice a i cap) ys ∧ Below B w wr from ⟨z, ds, rfl, hz1, hmk, hdl, hlen, hO, hb⟩)
      clear hO hb hmk hlen
      go_wp2
      go_ret
      exact HP.out

def HGO (w : World) (ys : List (Gr × Value)) (z : Int) (v1 v5 : Value) (wr : World) : Prop := ∃ (i : Nat) (k : Int), v5 = .int .i64 (i : Int) ∧ v1 = .int .i64 k ∧ i ≤ ys.length ∧ 1 ≤ k ∧ k ≤ 1 + 3145730 * i ∧ Marked k (ys.drop i) z ∧ wr = w

set_option maxRecDepth 100000 in
set_option maxHeartbeats 2000000 in
theorem heldGraphS_own (ys : List (Gr × Value)) (z : Int) (B : Nat) (a : Option Addr) (cap : Nat) (w : World) (h : OwnGS B w (.slice a ys.length cap) ys) (hm : Marked 1 ys z) (hl : ∀ p ∈ ys, p.1.rs.length ≤ 1048576) (hn : ys.length ≤ 1048576) :
    Calls Try.prog 10 #[.slice a ys.length cap, .int .i64 1] w fun e w' => e = .returned (.int .i64 z) ∧ w' = w := by
  have HO := Lib.hid h
  have HL := Lib.hid hl
  have HST := Lib.hid (show HGO w ys z (.int .i64 1) (.int .i64 0) w from ⟨0, 1, rfl, rfl, Nat.zero_le _, by omega, by omega, hm, rfl⟩)
  clear h hl hm
  go_enter Try.func10, Try.ntmps10
  go_wp2
  go_loopw [1, 5] (fun v1 v5 wr => HGO w ys z v1 v5 wr) (fun _ v5 _ => (ys.length - (intOf v5).toNat))
  case atStart => exact HST.out
  case round =>
    obtain ⟨i, k, rfl, rfl, hi, hk1, hk2, hmk, rfl⟩ := hrel
    clear HST
    by_cases hlt : i < ys.length
    · have hd : decide ((i : Int) < (ys.length : Int)) = true := decide_eq_true (by omega)
      rw [List.drop_eq_getElem_cons hlt] at hmk
      obtain ⟨m1, m2, m3, m4⟩ := hmk
      obtain ⟨g, ar, cr, rfl, hbg, hgl, hp2, c0, c1, c2, -⟩ := HO.out.at hlt
      have hin := HO.out.inn _ (List.getElem_mem hlt)
      have hpl := HL.out _ (List.getElem_mem hlt)
      rw [hp2, m3, mksA_len] at hin
      rw [m1] at c0
      rw [m2] at c1
      obtain ⟨n, hnn⟩ : ∃ n, ys[i].1.rs.length = n := ⟨_, rfl⟩
      rw [hnn] at c2 hin hpl m4
      have HHA := Lib.hid (heldArcS_ownK n (k + 1 + 1) (by omega) (by omega) B ar cr wr hin (by omega))
      have n0 : (k != k) = false := by simp
      have n1 : (k + 1 != k + 1) = false := by simp
      have hd2 : decide (k + 1 + 1 + 3 * (n : Int) < 0) = false := decide_eq_false (by omega)
      have HR := Lib.hid (show HGO wr ys z (.int .i64 (k + 1 + 1 + 3 * (n : Int))) (.int .i64 ((i : Int) + 1)) wr from ⟨i + 1, _, by go_num, rfl, by omega, by omega, by omega, m4, rfl⟩)
      clear m1 m2 m3 m4 hin hp2 hnn
      go_wp2_with fail
      refine HHA.out.mono ?_
      rintro e w3 ⟨rfl, rfl⟩
      clear HHA
      go_wp2
      go_roundw
      case rel => exact HR.out
      case measure => (simp [intOf] <;> omega)
    · obtain rfl : i = ys.length := by omega
      have hd : decide ((ys.length : Int) < (ys.length : Int)) = false := by simp
      rw [List.drop_length] at hmk
      have hz : z = k := hmk
      subst hz
      go_wp2
      go_ret
      exact ⟨rfl, rfl⟩

end Go.Proofs.Ytgjmefcognoepaa.Pr
