/-
  THE WALK over impl.partValue.
-/
import Derived.Test.YtcohjmbbanjjeaaGreatDoorPY2
namespace Go.Proofs.YtcohjmbbanjjeaaGreatDoor.Pr
open Go Go.RowKit Go.Maps Go.WideMaps

theorem kidsV_len (out : Nat → ByteArray) (x : It) : (kidsV out x).length = x.xs.length := by simp [kidsV]
theorem outCell {w : World} {base g N : Nat} {out : Nat → ByteArray} (h : w.ownsRow base 9 1 (.slice (some ⟨g, 0, none⟩) N N) N (outCells out N)) {i : Nat} (hi : i < N) : w.cell? ⟨g, i, none⟩ = some (.string (out i)) := by
  rw [h.cellAt i (by omega)]
  simp [outCells, hi]

def KidsRel (w0 : World) (kids : List ByteArray) (v v2 : Value) (wr : World) : Prop :=
  ∃ k : Nat, v2 = .int .i64 (k : Int) ∧ k ≤ kids.length ∧ wr.ownsRow w0.heap.size 9 1 v (kids.take k).length (txtCells (kids.take k)) ∧ Below w0.heap.size w0 wr

theorem partV_1 {names vals : List ByteArray} {x : It} {kids : List ByteArray} (h : x.k = 1) : partV names vals x kids = nameV names vals x.s := by unfold partV; rw [if_pos h]
theorem partV_2 {names vals : List ByteArray} {x : It} {kids : List ByteArray} (h : x.k = 2) : partV names vals x kids = (⟨#[]⟩, 1) := by unfold partV; rw [if_neg (by omega), if_pos h]
theorem partV_3 {names vals : List ByteArray} {x : It} {kids : List ByteArray} (h : x.k = 3) : partV names vals x kids = (x.s, 0) := by unfold partV; rw [if_neg (by omega), if_neg (by omega), if_pos h]
theorem partV_4 {names vals : List ByteArray} {x : It} {kids : List ByteArray} (h : x.k = 4) : partV names vals x kids = conV x.s kids := by unfold partV; rw [if_neg (by omega), if_neg (by omega), if_neg (by omega), if_pos h]
theorem partV_5 {names vals : List ByteArray} {x : It} {kids : List ByteArray} (h : 5 ≤ x.k) : partV names vals x kids = sumV x.k (kids.getD 0 ⟨#[]⟩) (kids.getD 1 ⟨#[]⟩) := by unfold partV; rw [if_neg (by omega), if_neg (by omega), if_neg (by omega), if_neg (by omega)]
theorem kind_cases {x : It} (h : kindOk x = true) : x.k = 1 ∨ x.k = 2 ∨ x.k = 3 ∨ x.k = 4 ∨ (5 ≤ x.k ∧ x.k ≤ 7 ∧ x.xs.length = 2) := by
  unfold kindOk isSum at h
  simp at h
  omega

set_option maxRecDepth 100000 in
set_option maxHeartbeats 2000000 in
theorem partValue_any (x : It) (out : Nat → ByteArray) (names vals : List ByteArray) (N g : Nat) (B : Nat) (ax a1 a2 : Option Addr) (cx c1 c2 : Nat) (S : Nat → Prop) (w : World) (hE : Env w.heap.size w) (hI : IntsIn S w ax x.xs) (h1 : TxtsIn S w a1 names) (h2 : TxtsIn S w a2 vals) (hS : ∀ b, S b → b < w.heap.size)
    (hown : w.ownsRow B 9 1 (.slice (some ⟨g, 0, none⟩) N N) N (outCells out N)) (hN : N ≤ 60) (hout : Small out) (hkind : kindOk x = true) (hkid : ∀ y ∈ x.xs, 0 ≤ y ∧ y < (N : Int)) (hxl : x.xs.length ≤ 60) (hxs : x.s.size ≤ 1048576) (hn : names.length ≤ 1048576) (hv : vals.length ≤ 1048576) :
    Calls Tryz.prog 40 #[.agg #[.int .i64 x.k, .string x.s, .slice ax x.xs.length cx], .slice (some ⟨g, 0, none⟩) N N, .slice a1 names.length c1, .slice a2 vals.length c2] w (ValPost (partV names vals x (kidsV out x)) w) := by
  have hb0 : Below w.heap.size w (w.alloc (.cells #[.int .i64 x.k, .string x.s, .slice ax x.xs.length cx] 67)) := (Below.refl _ _).alloc (Nat.le_refl _) _
  have k0 := heap_alloc_new w (.cells #[.int .i64 x.k, .string x.s, .slice ax x.xs.length cx] 67)
  obtain ⟨w0, hw0⟩ : ∃ w0, w.alloc (.cells #[.int .i64 x.k, .string x.s, .slice ax x.xs.length cx] 67) = w0 := ⟨_, rfl⟩
  rw [hw0] at hb0 k0
  have q0 := cell_of_row _ w.heap.size 0 _ _ _ k0
  have q1 := cell_of_row _ w.heap.size 1 _ _ _ k0
  have q2 := cell_of_row _ w.heap.size 2 _ _ _ k0
  simp only [List.getElem?_toArray, List.getElem?_cons_zero, List.getElem?_cons_succ] at q0 q1 q2
  have HE := Lib.hid hE
  have HI := Lib.hid hI
  have H1 := Lib.hid h1
  have H2 := Lib.hid h2
  have HS := Lib.hid hS
  have HO := Lib.hid hown
  have HSM := Lib.hid hout
  have HKD := Lib.hid hkind
  have HKID := Lib.hid hkid
  have HB0 := Lib.hid hb0
  have HK0 := Lib.hid k0
  have HKL := Lib.hid (kidsV_len out x)
  have HKV := Lib.hid (fun (i : Nat) (h : i < x.xs.length) => (by simp [kidsV, h] : (kidsV out x)[i]? = some (out (x.xs[i]).toNat)))
  have HSMK := Lib.hid (fun y (hy : y ∈ kidsV out x) => (by obtain ⟨z, _, rfl⟩ := List.mem_map.1 hy; exact hout _ : y.size ≤ 1048576))
  clear hE hI h1 h2 hS hown hout hkind hkid hb0 k0
  go_enter Tryz.func40, Tryz.ntmps40
  go_wp2
  go_loopw [10, 16] (fun v9 v14 wr => KidsRel w0 (kidsV out x) v9 v14 wr) (fun _ v14 _ => (x.xs.length - (intOf v14).toNat))
  case atStart => exact ⟨0, rfl, Nat.zero_le _, World.ownsRow_nil _ _ _ _, Below.refl _ _⟩
  case round =>
    obtain ⟨k, rfl, hk, hown, hb⟩ := hrel
    obtain ⟨av, cv, rfl⟩ := owns_shape hown
    have hkl := HKL.out
    have K1 := (hb.block _ (lt_of_block HK0.out)).trans HK0.out
    clear q0 q1 q2
    have q0 := cell_of_row _ w.heap.size 0 _ _ _ K1
    have q1 := cell_of_row _ w.heap.size 1 _ _ _ K1
    have q2 := cell_of_row _ w.heap.size 2 _ _ _ K1
    simp only [List.getElem?_toArray, List.getElem?_cons_zero, List.getElem?_cons_succ] at q0 q1 q2
    by_cases hlt : k < x.xs.length
    · have hd : decide ((k : Int) < (x.xs.length : Int)) = true := decide_eq_true (by omega)
      obtain ⟨b, off, rfl, hSb, hx⟩ := HI.out.kept (Same.below HS.out (below_step HB0.out hb)) k hlt
      have hy := HKID.out x.xs[k] (List.getElem_mem hlt)
      obtain ⟨y, hyy⟩ := Int.eq_ofNat_of_zero_le hy.1
      have hyN : y < N := by omega
      have c0 := outCell (row_kept HO.out (below_step HB0.out hb)) hyN
      rw [hyy] at hx
      have htk : (kidsV out x).take (k + 1) = (kidsV out x).take k ++ [out y] := by
        have h1 := HKV.out k hlt
        rw [hyy] at h1
        rw [List.take_add_one, h1]
        rfl
      have htl : ((kidsV out x).take k).length ≤ 60 := by rw [List.length_take]; omega
      obtain ⟨g', cap, w4, hrun, ho4, hb4, hk4, hat⟩ := push_txt hown (out y) (by omega) hb hb.size
      have HR := Lib.hid (show KidsRel w0 (kidsV out x) (.slice (some ⟨g', 0, none⟩) (((kidsV out x).take k).length + 1) cap) (.int .i64 ((k : Int) + 1)) w4 from ⟨k + 1, by go_num, by omega, by rw [htk]; exact ho4, hb4⟩)
      have HRUN := Lib.hid hrun
      generalize ((kidsV out x).take k).length = tl at *
      generalize out y = oy at *
      clear hrun ho4 hb4 hk4 hat hown hb K1 hSb hyy hy htk hkl
      go_wp2_with (first
        | (at_builtin
           refine wpList_append_run rfl (.tmp 20) (.tmp 25) _ rfl rfl rfl HRUN.out ?_))
      go_roundw
      case rel => exact HR.out
      case measure => (simp [intOf] <;> omega)
    · obtain rfl : k = x.xs.length := by omega
      have hd : decide ((x.xs.length : Int) < (x.xs.length : Int)) = false := by simp
      have ht : (kidsV out x).take x.xs.length = kidsV out x := List.take_of_length_le (by omega)
      rw [ht] at hown ⊢
      have hbb := below_step HB0.out hb
      have HBB := Lib.hid hbb
      have HOW := Lib.hid hown
      have HER := Lib.hid (HE.out.stays hbb).top
      have hkw := HSMK.out
      clear K1 hown hb ht
      rcases kind_cases HKD.out with h | h | h | h | ⟨h5, h7, h2⟩
      · have HP := Lib.hid (partV_1 (names := names) (vals := vals) (kids := kidsV out x) h)
        have HN := Lib.hid (nameValue_any x.s names vals a1 a2 c1 c2 S wr (H1.out.kept (Same.below HS.out hbb)) (H2.out.kept (Same.below HS.out hbb)) (fun b h => Nat.lt_of_lt_of_le (HS.out b h) hbb.size) hn hv)
        rw [h] at q0
        clear hbb hkw h hkl
        go_wp2_with fail
        refine HN.out.mono ?_
        rintro e w3 ⟨rfl, hb3⟩
        have HB3 := Lib.hid (below_step HBB.out hb3)
        clear hb3
        go_wp2
        go_ret2
        exact ⟨by rw [HP.out]; rfl, HB3.out⟩
      · have HP := Lib.hid (partV_2 (names := names) (vals := vals) (kids := kidsV out x) h)
        rw [h] at q0
        clear hbb hkw h hkl
        go_wp2
        go_ret2
        exact ⟨by rw [HP.out]; rfl, HBB.out⟩
      · have HP := Lib.hid (partV_3 (names := names) (vals := vals) (kids := kidsV out x) h)
        rw [h] at q0
        clear hbb hkw h hkl
        go_wp2
        go_ret2
        exact ⟨by rw [HP.out]; rfl, HBB.out⟩
      · have HP := Lib.hid (partV_4 (names := names) (vals := vals) (kids := kidsV out x) h)
        have HN := Lib.hid (conValue_any x.s (kidsV out x) w0.heap.size _ wr HER.out HOW.out hxs (by omega) hkw)
        rw [h] at q0
        clear hbb hkw h hkl
        go_wp2_with fail
        refine HN.out.mono ?_
        rintro e w3 ⟨rfl, hb3⟩
        have HB3 := Lib.hid (below_step HBB.out hb3)
        clear hb3
        go_wp2
        go_ret2
        exact ⟨by rw [HP.out]; rfl, HB3.out⟩
      · have HP := Lib.hid (partV_5 (names := names) (vals := vals) (kids := kidsV out x) h5)
        obtain ⟨ka, kb, hkk⟩ : ∃ ka kb, kidsV out x = [ka, kb] := by
          rw [h2] at hkl
          match hm : kidsV out x, hkl with
          | [p, q], _ => exact ⟨p, q, rfl⟩
        have HP0 : partV names vals x (kidsV out x) = sumV x.k ka kb := by rw [HP.out, hkk]; rfl
        rw [hkk] at HOW hkw hkl ⊢
        rw [show ([ka, kb] : List ByteArray).length = 2 from rfl]
        have ha := hkw ka (by simp)
        have hb := hkw kb (by simp)
        obtain ⟨g2, cp, hgv, hbg, hgl⟩ := HOW.out.form (by simp)
        simp only [Value.slice.injEq, true_and] at hgv
        obtain ⟨rfl, rfl⟩ := hgv
        have y0 : wr.cell? ⟨g2, 0, none⟩ = some (.string ka) := HOW.out.cellAt 0 (by simp)
        have y1 : wr.cell? ⟨g2, 1, none⟩ = some (.string kb) := HOW.out.cellAt 1 (by simp)
        have HN := Lib.hid (fun (W : World) (hW : Below wr.heap.size wr W) => (show Calls Tryz.prog 55 #[.int .i64 x.k, .string ka, .string kb] W (fun e w' => e = .returned (.tuple #[.string (sumV x.k ka kb).1, .int .i64 (sumV x.k ka kb).2]) ∧ Below wr.heap.size wr w') from (sumValue_any x.k ka kb W (HER.out.stays hW).top ha hb).mono (fun e w' h => ⟨h.1, below_step hW h.2⟩)))
        have hg2 : g2 < wr.heap.size := hgl
        have hgw : w.heap.size < wr.heap.size := cell_lt q0
        have e1 : (x.k == 1) = false := beq_eq_false_iff_ne.2 (by omega)
        have e2 : (x.k == 2) = false := beq_eq_false_iff_ne.2 (by omega)
        have e3 : (x.k == 3) = false := beq_eq_false_iff_ne.2 (by omega)
        have e4 : (x.k == 4) = false := beq_eq_false_iff_ne.2 (by omega)
        have HPP := Lib.hid (fun (w3 : World) (h3 : Below wr.heap.size wr w3) => (⟨by rw [HP0], below_step HBB.out h3⟩ : ValPost (partV names vals x (kidsV out x)) w (.returned (.tuple #[.string (sumV x.k ka kb).1, .int .i64 (sumV x.k ka kb).2])) w3))
        clear hbb hkw h5 h7 ha hb hkk HP HOW hkl h2 HP0
        generalize x.k = xk at *
        have hB0 : Below wr.heap.size wr wr := Below.refl _ _
        go_wp2
        go_region_held3 (fun w' => w'.cell? ⟨w.heap.size, 0, none⟩ = some (.int .i64 xk) ∧ w'.cell? ⟨g2, 0, none⟩ = some (.string ka) ∧ w'.cell? ⟨g2, 1, none⟩ = some (.string kb) ∧ Below wr.heap.size wr w')
          (refine ⟨?_, ?_, ?_, ?_⟩ <;> (first | assumption | (simp [*]; done) | (apply Below.drew; assumption)))
          (first
            | (go_at_call 55
               refine (HN.out _ (by first | assumption | (apply Below.drew; assumption))).mono ?_
               rintro e7 w7 ⟨rfl, hb7⟩
               have z0 := (hb7.cell (p := ⟨w.heap.size, 0, none⟩) hgw).trans q0
               have z1 := (hb7.cell (p := ⟨g2, 0, none⟩) hg2).trans y0
               have z2 := (hb7.cell (p := ⟨g2, 1, none⟩) hg2).trans y1)
            | fail)
        clear HN z0 z1 z2
        go_wp2
        go_ret2
        exact HPP.out _ (by first | assumption | (apply Below.drew; assumption))

end Go.Proofs.YtcohjmbbanjjeaaGreatDoor.Pr
