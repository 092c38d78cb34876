/-
  THE WALKS of the reference's small functions: spec.l01Between, spec.l04Side, spec.l04Lit.
-/
import Derived.Test.YtilijbpbnlnhlaaGreatPMod
namespace Go.Proofs.YtilijbpbnlnhlaaGreat.Pr
open Go Go.RowKit Go.Maps Go.WideMaps

set_option maxRecDepth 100000 in
set_option maxHeartbeats 1000000 in
theorem between_any (x lo hi : Int) (w : World) : Calls Tryz.prog 62 #[.int .i64 x, .int .i64 lo, .int .i64 hi] w fun e w' => e = .returned (.bool (decide (lo ≤ x) && decide (x ≤ hi))) ∧ w' = w := by
  by_cases h1 : lo ≤ x
  · by_cases h2 : x ≤ hi
    · go_enter Tryz.func62, Tryz.ntmps62
      go_wp2
      go_ret
      simp [h1, h2]
    · go_enter Tryz.func62, Tryz.ntmps62
      go_wp2
      go_ret
      simp [h2]
  · go_enter Tryz.func62, Tryz.ntmps62
    go_wp2
    go_ret
    have : decide (lo ≤ x) = false := decide_eq_false (by omega)
    simp [this]

set_option maxRecDepth 100000 in
set_option maxHeartbeats 2000000 in
theorem side_any (u : Ru) (vs : List Value) (S T : Nat → Prop) (ao : Option Addr) (co : Nat) (out : List BA) (x : Int) (w : World) (hF : FRu S w vs u) (hS : ∀ b, S b → b < w.heap.size) (ho : TxtsIn T w ao out) (hT : ∀ b, T b → b < w.heap.size) (h0 : 0 ≤ x) (hx : x.toNat < u.es.length) (hx2 : x.toNat < out.length) (hlen : ∀ s ∈ out, s.size ≤ 3000) (_hol : out.length ≤ 60) (_hel : u.es.length ≤ 60) :
    Calls Tryz.prog 64 #[.agg vs.toArray, .slice ao out.length co, .int .i64 x] w fun e w' => e = .returned (.string (side u.es out x)) ∧ Below w.heap.size w w' := by
  obtain ⟨aes, ces, ahd, chd, abd, cbd, rfl, r0, r1, r2⟩ := hF
  obtain ⟨n, rfl⟩ := Int.eq_ofNat_of_zero_le h0
  rw [Int.toNat_natCast] at hx hx2
  have hb0 := (Below.refl w.heap.size w).alloc (Nat.le_refl _) (Obj.cells #[.slice aes u.es.length ces, .int .i64 u.hd.k, .string u.hd.s, .slice ahd u.hd.xs.length chd, .slice abd u.bd.length cbd] 36)
  obtain ⟨b, off, us, rfl, hbl, hul, hcc, ⟨ka, kc, rfl, hI⟩⟩ := RowIn.kept FIt_keeps r0 (Same.below hS hb0) n hx
  obtain ⟨b2, off2, rfl, hbl2, hc2⟩ := ho.kept (Same.below hT hb0) n hx2
  have hsd : side u.es out n = if isSum u.es[n].k then ⟨#[40]⟩ ++ out[n] ++ ⟨#[41]⟩ else out[n] := by
    unfold side
    rw [Int.toNat_natCast, List.getElem?_eq_getElem hx]
    simp [List.getD, hx2]
  rw [hsd]
  have hos := hlen out[n] (List.getElem_mem hx2)
  have hx0 := hcc 0 (by simp)
  have hx1 := hcc 1 (by simp)
  have hx2' := hcc 2 (by simp)
  simp only [List.getElem_cons_zero, List.getElem_cons_succ, Nat.add_zero] at hx0 hx1 hx2'
  have HBT := Lib.hid (fun W => between_any u.es[n].k 5 7 W)
  clear hcc hul hI r0 r1 r2 ho hlen hsd
  have hi : (decide (5 ≤ u.es[n].k) && decide (u.es[n].k ≤ 7)) = isSum u.es[n].k := rfl
  rw [hi] at HBT
  generalize out[n] = o at *
  by_cases hs : isSum u.es[n].k = true
  · rw [hs] at HBT ⊢
    rw [if_pos rfl]
    clear hs hi
    generalize u.es[n].k = kk at *
    go_enter Tryz.func64, Tryz.ntmps64
    go_wp2_with fail
    refine (HBT.out _).mono ?_
    rintro e w1 ⟨rfl, rfl⟩
    clear HBT hx0 hx1 hx2'
    go_wp2
    go_ret
    exact ⟨rfl, hb0⟩
  · have hs' : isSum u.es[n].k = false := by simpa using hs
    rw [hs'] at HBT ⊢
    rw [if_neg (by simp)]
    clear hs hi hs'
    generalize u.es[n].k = kk at *
    go_enter Tryz.func64, Tryz.ntmps64
    go_wp2_with fail
    refine (HBT.out _).mono ?_
    rintro e w1 ⟨rfl, rfl⟩
    clear HBT hx0 hx1 hx2'
    go_wp2
    go_ret
    exact ⟨rfl, hb0⟩

/-- How far the texts of the arguments have come. -/
def LitRel (w : World) (out : List BA) (s : BA) (xs : List Int) (v4 v5 : Value) (wr : World) : Prop :=
  ∃ k : Nat, Below w.heap.size w wr ∧ v5 = .int .i64 (k : Int) ∧ k ≤ xs.length ∧ v4 = .string (listTxt fLit out s (xs.take k)).1

/-- A bound of the texts of lists. -/
theorem listTxt_size (f : Bool → BA → BA) (hf : ∀ b a, (f b a).size ≤ a.size + 2) (out : List BA) (hlen : ∀ s ∈ out, s.size ≤ 3000) (s : BA) : ∀ (k : Nat) (xs : List Int), (listTxt f out s (xs.take k)).1.size ≤ s.size + 3002 * k
  | 0, xs => Nat.le_add_right _ _
  | k + 1, xs => by
    by_cases h : k < xs.length
    · rw [List.take_succ_eq_append_getElem h, listTxt_snoc, ByteArray.size_append]
      have h1 := listTxt_size f hf out hlen s k xs
      have h2 := hf (listTxt f out s (xs.take k)).2 (listTxt f out s (xs.take k)).1
      have h3 : (out.getD xs[k].toNat ⟨#[]⟩).size ≤ 3000 := by
        rw [List.getD_eq_getElem?_getD]
        cases hg : out[xs[k].toNat]? with
        | none => exact Nat.zero_le _
        | some q => exact hlen q (List.mem_of_getElem? hg)
      omega
    · rw [List.take_of_length_le (by omega)]
      have h1 := listTxt_size f hf out hlen s k xs
      rw [List.take_of_length_le (by omega)] at h1
      omega
theorem size2 (x y : UInt8) : ByteArray.size ⟨#[x, y]⟩ = 2 := rfl
theorem size1 (x : UInt8) : ByteArray.size ⟨#[x]⟩ = 1 := rfl
theorem fLit_size (b : Bool) (a : BA) : (fLit b a).size ≤ a.size + 2 := by
  unfold fLit
  split
  · rw [ByteArray.size_append, size2]; omega
  · omega
theorem fCon_size (b : Bool) (a : BA) : (fCon b a).size ≤ a.size + 2 := by
  unfold fCon
  split
  · rw [ByteArray.size_append, size2]; omega
  · rw [ByteArray.size_append, size1]; omega

set_option maxRecDepth 100000 in
set_option maxHeartbeats 2000000 in
theorem lit_not (kk : Int) (s : BA) (xs : List Int) (ka : Option Addr) (kc : Nat) (S T : Nat → Prop) (ao : Option Addr) (co : Nat) (out : List BA) (w : World) (hI : IntsIn S w ka xs) (hS : ∀ b, S b → b < w.heap.size) (ho : TxtsIn T w ao out) (hT : ∀ b, T b → b < w.heap.size) (hx : ∀ x ∈ xs, 0 ≤ x ∧ x < (out.length : Int)) (hlen : ∀ s ∈ out, s.size ≤ 3000) (_hol : out.length ≤ 60) (hw : s.size + xs.length ≤ 1048576) (hkk : kk = 2) :
    Calls Tryz.prog 47 #[.agg #[.int .i64 kk, .string s, .slice ka xs.length kc], .slice ao out.length co] w fun e w' => e = .returned (.tuple #[.string ((listTxt fLit out (⟨#[33]⟩ ++ (s ++ ⟨#[40]⟩)) xs).1 ++ ⟨#[41]⟩), .bool (decide (kk = 1 ∨ kk = 2))]) ∧ Below w.heap.size w w' := by
  subst hkk
  have hb0 := (Below.refl w.heap.size w).alloc (Nat.le_refl _) (Obj.cells #[.int .i64 2, .string s, .slice ka xs.length kc] 33)
  have k0 := heap_alloc_new w (Obj.cells #[.int .i64 2, .string s, .slice ka xs.length kc] 33)
  obtain ⟨W0, hW0⟩ : ∃ W0, w.alloc (Obj.cells #[.int .i64 2, .string s, .slice ka xs.length kc] 33) = W0 := ⟨_, rfl⟩
  rw [hW0] at hb0 k0
  have K0 := Lib.hid k0
  have q0 := cell_of_row _ w.heap.size 0 _ _ _ k0
  have q1 := cell_of_row _ w.heap.size 1 _ _ _ k0
  have q2 := cell_of_row _ w.heap.size 2 _ _ _ k0
  simp only [List.getElem?_toArray, List.getElem?_cons_zero, List.getElem?_cons_succ] at q0 q1 q2
  have HX := Lib.hid hx
  have HLEN := Lib.hid hlen
  have HO := Lib.hid (fun (W : World) (hW : Below W0.heap.size W0 W) => ho.kept (Same.below hT (below_step hb0 hW)))
  have HI := Lib.hid (fun (W : World) (hW : Below W0.heap.size W0 W) => hI.kept (Same.below hS (below_step hb0 hW)))
  have hbz : True := trivial
  clear k0 hx hlen ho hI hS hT
  obtain ⟨S0, hS0⟩ : ∃ S0 : BA, S0 = ⟨#[33]⟩ ++ (s ++ ⟨#[40]⟩) := ⟨_, rfl⟩
  have hS0s : S0.size ≤ 1048580 := by rw [hS0]; simp only [ByteArray.size_append, size1]; omega
  have hst : LitRel W0 out S0 xs (.string (⟨#[33]⟩ ++ (s ++ ⟨#[40]⟩))) (.int .i64 0) W0 := ⟨0, Below.refl _ _, rfl, Nat.zero_le _, by rw [← hS0]; rfl⟩
  have HST := Lib.hid hst
  have HS0 := Lib.hid hS0
  clear hS0 hst hbz
  go_enter Tryz.func47, Tryz.ntmps47
  go_wp2
  clear hW0 q0 q1 q2
  go_loopw [6, 7] (fun v6 v7 wr => LitRel W0 out S0 xs v6 v7 wr) (fun _ v7 _ => (xs.length - (intOf v7).toNat))
  case atStart => exact HST.out
  case round =>
    obtain ⟨k, hb, rfl, hk, rfl⟩ := hrel
    have kp := (hb.block _ (lt_of_block K0.out)).trans K0.out
    have p0 := cell_of_row _ w.heap.size 0 _ _ _ kp
    have p1 := cell_of_row _ w.heap.size 1 _ _ _ kp
    have p2 := cell_of_row _ w.heap.size 2 _ _ _ kp
    simp only [List.getElem?_toArray, List.getElem?_cons_zero, List.getElem?_cons_succ] at p0 p1 p2
    have hsz := listTxt_size fLit fLit_size out HLEN.out S0 k xs
    have hsz2 : (listTxt fLit out S0 (xs.take k)).1.size ≤ 3300000000 := by omega
    clear kp hsz
    by_cases hlt : k < xs.length
    · obtain ⟨b, off, rfl, hbl, hx0⟩ := HI.out wr hb k hlt
      obtain ⟨hxa, hxb⟩ := HX.out xs[k] (List.getElem_mem hlt)
      have hsnd := listTxt_snd fLit out S0 xs k (by omega)
      have hnx := listTxt_snoc fLit out S0 (xs.take k) xs[k]
      rw [← List.take_succ_eq_append_getElem hlt] at hnx
      obtain ⟨m, hm⟩ := Int.eq_ofNat_of_zero_le hxa
      rw [hm] at hx0 hnx hxb
      have hml : m < out.length := by omega
      obtain ⟨b2, off2, rfl, hbl2, hx1⟩ := HO.out wr hb m hml
      have hog : out.getD ((m : Int)).toNat ⟨#[]⟩ = out[m] := by rw [Int.toNat_natCast]; simp [List.getD, hml]
      rw [hog] at hnx
      have hos := HLEN.out out[m] (List.getElem_mem hml)
      have HRR := Lib.hid (fun (s' : BA) (hs' : s' = (listTxt fLit out S0 (xs.take (k + 1))).1) => (⟨k + 1, hb, by go_num, by omega, by rw [hs']⟩ : LitRel W0 out S0 xs (.string s') (.int .i64 ((k : Int) + 1)) wr))
      have HNX := Lib.hid hnx
      have HSND := Lib.hid hsnd
      clear hnx hsnd hog hbl hbl2 hxa hxb hb hm
      generalize out[m] = o at *
      obtain ⟨A, hA⟩ : ∃ A, A = (listTxt fLit out S0 (xs.take k)).1 := ⟨_, rfl⟩
      rw [← hA] at hsz2 HNX ⊢
      by_cases hk0 : 0 < k
      · have hd : decide ((0 : Int) < (k : Int)) = true := decide_eq_true (by omega)
        have HE := Lib.hid (show A ++ ⟨#[44, 32]⟩ ++ o = (listTxt fLit out S0 (xs.take (k + 1))).1 by
          rw [HNX.out, HSND.out, decide_eq_true hk0]
          rfl)
        replace HRR := Lib.hid (HRR.out _ HE.out)
        clear HE HNX HSND hA
        go_wp2
        go_roundw
        case rel => exact HRR.out
        case measure => simp [intOf]; omega
      · have hd : decide ((0 : Int) < (k : Int)) = false := decide_eq_false (by omega)
        have HE := Lib.hid (show A ++ o = (listTxt fLit out S0 (xs.take (k + 1))).1 by
          rw [HNX.out, HSND.out, decide_eq_false hk0]
          rfl)
        replace HRR := Lib.hid (HRR.out _ HE.out)
        clear HE HNX HSND hA
        go_wp2
        go_roundw
        case rel => exact HRR.out
        case measure => simp [intOf]; omega
    · obtain rfl : k = xs.length := by omega
      rw [List.take_length] at hsz2 ⊢
      obtain ⟨A, hA⟩ : ∃ A, A = (listTxt fLit out S0 xs).1 := ⟨_, rfl⟩
      rw [← hA] at hsz2 ⊢
      have HA := Lib.hid hA
      have HB := Lib.hid (below_step hb0 hb)
      clear hA hb
      go_wp2
      go_quiet (fail)
      go_wp2
      go_ret2
      rw [HA.out, HS0.out]
      exact ⟨by simp, below_drewN HB.out _⟩

set_option maxRecDepth 100000 in
set_option maxHeartbeats 2000000 in
theorem lit_else (kk : Int) (s : BA) (xs : List Int) (ka : Option Addr) (kc : Nat) (S T : Nat → Prop) (ao : Option Addr) (co : Nat) (out : List BA) (w : World) (hI : IntsIn S w ka xs) (hS : ∀ b, S b → b < w.heap.size) (ho : TxtsIn T w ao out) (hT : ∀ b, T b → b < w.heap.size) (hx : ∀ x ∈ xs, 0 ≤ x ∧ x < (out.length : Int)) (hlen : ∀ s ∈ out, s.size ≤ 3000) (_hol : out.length ≤ 60) (hw : s.size + xs.length ≤ 1048576) (hk3 : (kk == 3) = false) (hk2 : (kk == 2) = false) :
    Calls Tryz.prog 47 #[.agg #[.int .i64 kk, .string s, .slice ka xs.length kc], .slice ao out.length co] w fun e w' => e = .returned (.tuple #[.string ((listTxt fLit out (s ++ ⟨#[40]⟩) xs).1 ++ ⟨#[41]⟩), .bool (decide (kk = 1 ∨ kk = 2))]) ∧ Below w.heap.size w w' := by
  have hb0 := (Below.refl w.heap.size w).alloc (Nat.le_refl _) (Obj.cells #[.int .i64 kk, .string s, .slice ka xs.length kc] 33)
  have k0 := heap_alloc_new w (Obj.cells #[.int .i64 kk, .string s, .slice ka xs.length kc] 33)
  obtain ⟨W0, hW0⟩ : ∃ W0, w.alloc (Obj.cells #[.int .i64 kk, .string s, .slice ka xs.length kc] 33) = W0 := ⟨_, rfl⟩
  rw [hW0] at hb0 k0
  have K0 := Lib.hid k0
  have q0 := cell_of_row _ w.heap.size 0 _ _ _ k0
  have q1 := cell_of_row _ w.heap.size 1 _ _ _ k0
  have q2 := cell_of_row _ w.heap.size 2 _ _ _ k0
  simp only [List.getElem?_toArray, List.getElem?_cons_zero, List.getElem?_cons_succ] at q0 q1 q2
  have HX := Lib.hid hx
  have HLEN := Lib.hid hlen
  have HO := Lib.hid (fun (W : World) (hW : Below W0.heap.size W0 W) => ho.kept (Same.below hT (below_step hb0 hW)))
  have HI := Lib.hid (fun (W : World) (hW : Below W0.heap.size W0 W) => hI.kept (Same.below hS (below_step hb0 hW)))
  have hbz : True := trivial
  clear k0 hx hlen ho hI hS hT
  obtain ⟨S0, hS0⟩ : ∃ S0 : BA, S0 = s ++ ⟨#[40]⟩ := ⟨_, rfl⟩
  have hS0s : S0.size ≤ 1048580 := by rw [hS0]; simp only [ByteArray.size_append, size1]; omega
  have hst : LitRel W0 out S0 xs (.string (s ++ ⟨#[40]⟩)) (.int .i64 0) W0 := ⟨0, Below.refl _ _, rfl, Nat.zero_le _, by rw [← hS0]; rfl⟩
  have HST := Lib.hid hst
  have HS0 := Lib.hid hS0
  clear hS0 hst hbz
  go_enter Tryz.func47, Tryz.ntmps47
  go_wp2
  clear hW0 q0 q1 q2
  go_loopw [6, 7] (fun v6 v7 wr => LitRel W0 out S0 xs v6 v7 wr) (fun _ v7 _ => (xs.length - (intOf v7).toNat))
  case atStart => exact HST.out
  case round =>
    obtain ⟨k, hb, rfl, hk, rfl⟩ := hrel
    have kp := (hb.block _ (lt_of_block K0.out)).trans K0.out
    have p0 := cell_of_row _ w.heap.size 0 _ _ _ kp
    have p1 := cell_of_row _ w.heap.size 1 _ _ _ kp
    have p2 := cell_of_row _ w.heap.size 2 _ _ _ kp
    simp only [List.getElem?_toArray, List.getElem?_cons_zero, List.getElem?_cons_succ] at p0 p1 p2
    have hsz := listTxt_size fLit fLit_size out HLEN.out S0 k xs
    have hsz2 : (listTxt fLit out S0 (xs.take k)).1.size ≤ 3300000000 := by omega
    clear kp hsz
    by_cases hlt : k < xs.length
    · obtain ⟨b, off, rfl, hbl, hx0⟩ := HI.out wr hb k hlt
      obtain ⟨hxa, hxb⟩ := HX.out xs[k] (List.getElem_mem hlt)
      have hsnd := listTxt_snd fLit out S0 xs k (by omega)
      have hnx := listTxt_snoc fLit out S0 (xs.take k) xs[k]
      rw [← List.take_succ_eq_append_getElem hlt] at hnx
      obtain ⟨m, hm⟩ := Int.eq_ofNat_of_zero_le hxa
      rw [hm] at hx0 hnx hxb
      have hml : m < out.length := by omega
      obtain ⟨b2, off2, rfl, hbl2, hx1⟩ := HO.out wr hb m hml
      have hog : out.getD ((m : Int)).toNat ⟨#[]⟩ = out[m] := by rw [Int.toNat_natCast]; simp [List.getD, hml]
      rw [hog] at hnx
      have hos := HLEN.out out[m] (List.getElem_mem hml)
      have HRR := Lib.hid (fun (s' : BA) (hs' : s' = (listTxt fLit out S0 (xs.take (k + 1))).1) => (⟨k + 1, hb, by go_num, by omega, by rw [hs']⟩ : LitRel W0 out S0 xs (.string s') (.int .i64 ((k : Int) + 1)) wr))
      have HNX := Lib.hid hnx
      have HSND := Lib.hid hsnd
      clear hnx hsnd hog hbl hbl2 hxa hxb hb hm
      generalize out[m] = o at *
      obtain ⟨A, hA⟩ : ∃ A, A = (listTxt fLit out S0 (xs.take k)).1 := ⟨_, rfl⟩
      rw [← hA] at hsz2 HNX ⊢
      by_cases hk0 : 0 < k
      · have hd : decide ((0 : Int) < (k : Int)) = true := decide_eq_true (by omega)
        have HE := Lib.hid (show A ++ ⟨#[44, 32]⟩ ++ o = (listTxt fLit out S0 (xs.take (k + 1))).1 by
          rw [HNX.out, HSND.out, decide_eq_true hk0]
          rfl)
        replace HRR := Lib.hid (HRR.out _ HE.out)
        clear HE HNX HSND hA
        go_wp2
        go_roundw
        case rel => exact HRR.out
        case measure => simp [intOf]; omega
      · have hd : decide ((0 : Int) < (k : Int)) = false := decide_eq_false (by omega)
        have HE := Lib.hid (show A ++ o = (listTxt fLit out S0 (xs.take (k + 1))).1 by
          rw [HNX.out, HSND.out, decide_eq_false hk0]
          rfl)
        replace HRR := Lib.hid (HRR.out _ HE.out)
        clear HE HNX HSND hA
        go_wp2
        go_roundw
        case rel => exact HRR.out
        case measure => simp [intOf]; omega
    · obtain rfl : k = xs.length := by omega
      rw [List.take_length] at hsz2 ⊢
      obtain ⟨A, hA⟩ : ∃ A, A = (listTxt fLit out S0 xs).1 := ⟨_, rfl⟩
      rw [← hA] at hsz2 ⊢
      have HA := Lib.hid hA
      have HB := Lib.hid (below_step hb0 hb)
      clear hA hb
      by_cases h1 : kk = 1
      · have h1' : (kk == 1) = true := by simpa using h1
        go_wp2
        go_quiet (fail)
        go_wp2
        go_ret2
        rw [HA.out, HS0.out]
        exact ⟨by simp [h1], below_drewN HB.out _⟩
      · have h1' : (kk == 1) = false := by simpa using h1
        have h2 : kk ≠ 2 := by simpa using hk2
        go_wp2
        go_quiet (fail)
        go_wp2
        go_ret2
        rw [HA.out, HS0.out]
        exact ⟨by simp [h1, h2], below_drewN HB.out _⟩

end Go.Proofs.YtilijbpbnlnhlaaGreat.Pr
