/-
  THE WALK of impl.closed.
-/
import Derived.Test.YtgjmefcognoepaaPQ7
namespace Go.Proofs.Ytgjmefcognoepaa.Pr
open Go Go.RowKit Go.Maps Go.WideMaps

/-- The answer, as graphs told by tables. -/
def AgAns (l : List Gr) (w : World) (e : Ending) (w' : World) : Prop := ∃ (a : Option Addr) (c : Nat) (zs : List (Gr × List Int)), e = .returned (.tuple #[.slice a zs.length c, .bool (closeAns l).2]) ∧ AgOk zs ∧ w'.ownsRow w.heap.size 49 38 (.slice a zs.length c) zs.length (agCells zs) ∧ zs.map Prod.fst = (closeAns l).1 ∧ Below w.heap.size w w'
theorem AgAns.no {l : List Gr} {w w' : World} (h : closeAns l = ([], false)) (hb : Below w.heap.size w w') : AgAns l w (.returned (.tuple #[.slice Option.none 0 0, .bool false])) w' := ⟨Option.none, 0, [], by rw [h]; rfl, fun p hp => by simp at hp, World.ownsRow_nil _ _ _ _, by rw [h]; rfl, hb⟩
def CL1 (w : World) (ys : List (Gr × List Int)) (v : Value) (wr : World) : Prop := ∃ (i : Nat) (a : Option Addr) (c : Nat) (zs : List (Gr × List Int)), v = .int .i64 (i : Int) ∧ i ≤ ys.length ∧ Clo w.heap.size w.heap.size a c zs wr ∧ zs.map Prod.fst = startG ((ys.map Prod.fst).take i) ∧ zs.length ≤ 120 ∧ Below w.heap.size w wr
def CL2 (w : World) (ys : List (Gr × List Int)) (v : Value) (wr : World) : Prop := ∃ (k : Nat) (a : Option Addr) (c : Nat) (zs : List (Gr × List Int)) (before : Int), v = .int .i64 before ∧ ((before = -1 ∧ k = 0) ∨ ∃ k', k = k' + 1 ∧ before = ((passGN (ys.map Prod.fst) k').length : Int)) ∧ Clo w.heap.size w.heap.size a c zs wr ∧ zs.map Prod.fst = passGN (ys.map Prod.fst) k ∧ zs.length ≤ 120 ∧ Below w.heap.size w wr

set_option maxRecDepth 100000 in
set_option maxHeartbeats 8000000 in
theorem closed_any (ys : List (Gr × List Int)) (hA : AgOk ys) (a : Option Addr) (c B : Nat) (w : World) (hown : w.ownsRow B 49 38 (.slice a ys.length c) ys.length (agCells ys)) (hn : ys.length ≤ 1048576) :
    Calls Try.prog 17 #[.slice a ys.length c] w (AgAns (ys.map Prod.fst) w) := by
  have HOK := Lib.hid hA
  have HO := Lib.hid (fun (W : World) (hW : Below w.heap.size w W) => row_kept hown hW)
  have hb0 : Below w.heap.size w (w.alloc (.cells #[.slice none 0 0] 66)) := (Below.refl _ _).alloc (Nat.le_refl _) _
  have hk0 := heap_alloc_new w (.cells #[.slice none 0 0] 66)
  have HST := Lib.hid (show CL1 w ys (.int .i64 0) (w.alloc (.cells #[.slice none 0 0] 66)) from ⟨0, none, 0, [], rfl, Nat.zero_le _, ⟨hk0, World.ownsRow_nil _ _ _ _, fun p hp => by simp at hp, fun b h => by simp [Value.ownBlock] at h, Nat.le_refl _⟩, rfl, by simp, hb0⟩)
  have HRL := Lib.hid (show RightL (ys.map Prod.fst) from fun g hg => by
    obtain ⟨p, hp, rfl⟩ := List.mem_map.1 hg
    exact (hA p hp).2)
  clear hA hown hb0 hk0
  go_enter Try.func17, Try.ntmps17
  go_wp2
  go_loopw [12] (fun v wr => CL1 w ys v wr) (fun v _ => (ys.length - (intOf v).toNat))
  case atStart => exact HST.out
  case round =>
    obtain ⟨i, a1, c1, zs, rfl, hi, hC, hm, hf, hb⟩ := hrel
    clear HST
    by_cases hlt : i < ys.length
    · have hd : decide ((i : Int) < (ys.length : Int)) = true := decide_eq_true (by omega)
      obtain ⟨b0, rfl, hb1, hb2, hrg⟩ := ag_at HOK.out (HO.out wr hb) hlt
      have hAi := HOK.out _ (List.getElem_mem hlt)
      obtain ⟨hlm, hmi⟩ := map_get hlt
      have htk : startG ((ys.map Prod.fst).take (i + 1)) = addG (zs.map Prod.fst) ys[i].1 := by
        rw [List.take_succ_eq_append_getElem hlm, hmi, hm]; unfold startG; rw [List.foldl_append]; rfl
      have HLI := Lib.hid (show (Try.prog.info? 49).map (·.size) = some (gcells ys[i].1.f ys[i].1.t ys[i].2).length by rw [infoSAG, gcells_len hAi.1.len])
      have HSI := Lib.hid (gcells_size (f := ys[i].1.f) (t := ys[i].1.t) hAi.1.len)
      have HZI := Lib.hid (z36_size (f := ys[i].1.f) (t := ys[i].1.t) hAi.1.len)
      have HZ := Lib.hid (heap_alloc_new wr (.cells (gcells 0 0 z36).toArray 49))
      have hgb := setRow_heap _ wr.heap.size _ (gcells ys[i].1.f ys[i].1.t ys[i].2).toArray _ _ HZ.out
      have hbl := below_setRow (below_alloc (Below.refl wr.heap.size wr) (.cells (gcells 0 0 z36).toArray 49)) (g := wr.heap.size) (gcells ys[i].1.f ys[i].1.t ys[i].2).toArray (Nat.le_refl _)
      obtain ⟨p, hp⟩ : ∃ p, ys[i] = p := ⟨_, rfl⟩
      rw [hp] at hrg HLI HSI HZI hAi hgb hbl htk
      obtain ⟨w2, hw2⟩ : ∃ w2, (wr.alloc (.cells (gcells 0 0 z36).toArray 49)).setRow wr.heap.size (gcells p.1.f p.1.t p.2).toArray = w2 := ⟨_, rfl⟩
      rw [hw2] at hgb hbl
      have HW2 := Lib.hid hw2
      have hb2w := below_step hb hbl
      have HPU := Lib.hid (put_any w.heap.size w.heap.size w zs a1 c1 p.1 p.2 hAi.1 hAi.2 w2 (hC.kept hbl) hf hb2w hb2w.size)
      have HGB := Lib.hid hgb
      have HTK := Lib.hid htk
      have z1 : (0 : Int) ≤ (i : Int) := by omega
      have z2 : (i : Int) < (ys.length : Int) := by omega
      clear hC hm hf hb hgb hbl hAi htk hw2 hmi hp hb2w
      go_wp2_with (first
        | (with_reducible refine at_load 49 14 ?_
           refine wpList_load_mid rfl 49 (.tmp 14) rfl b0 (i * 38) rfl _ _ hrg Try.underlying49 rfl HLI.out ?_)
        | (with_reducible refine at_store 49 6 15 ?_
           refine wpList_store_row rfl 49 (.tmp 6) (.tmp 15) rfl wr.heap.size (gcells p.1.f p.1.t p.2).toArray rfl rfl 49 _ HZ.out HSI.out HZI.out (gcells_one _ _ _) ?_
           erw [HW2.out])
        | (with_reducible refine at_load 49 6 ?_
           refine wpList_load_row rfl 49 (.tmp 6) rfl wr.heap.size rfl 49 _ (0, 0) _ HGB.out Try.underlying49 rfl HSI.out ?_)
        | fail)
      refine HPU.out.mono ?_
      rintro e4 w4 ⟨a3, c3, zs3, rfl, hC3, hm3, hb3, hst3, hnew3⟩
      by_cases hz : zs3.length ≤ 120
      · have hdz : decide (zs3.length ≤ 120) = true := decide_eq_true hz
        rw [hdz]
        have HR := Lib.hid (show CL1 w ys (.int .i64 ((i : Int) + 1)) w4 from ⟨i + 1, a3, c3, zs3, by go_num, by omega, hC3, by rw [HTK.out]; exact hm3, hz, hb3⟩)
        clear hC3 hm3 hb3 hst3 hnew3 hdz hz HPU
        go_wp2_with fail
        go_roundw
        case rel => exact HR.out
        case measure => (simp [intOf] <;> omega)
      · have hdz : decide (zs3.length ≤ 120) = false := decide_eq_false hz
        rw [hdz]
        have HP := Lib.hid (AgAns.no (closeAns_start (l := ys.map Prod.fst) (a := (ys.map Prod.fst).take (i + 1)) (b := (ys.map Prod.fst).drop (i + 1)) (by rw [List.take_append_drop]) (by rw [HTK.out, ← hm3, List.length_map]; omega)) hb3)
        clear hC3 hm3 hb3 hst3 hnew3 hdz hz HPU
        go_wp2_with fail
        go_ret2
        exact HP.out
    · obtain rfl : i = ys.length := by omega
      have hd : decide ((ys.length : Int) < (ys.length : Int)) = false := by simp
      have htk : (ys.map Prod.fst).take ys.length = ys.map Prod.fst := by
        have := List.take_length (l := ys.map Prod.fst)
        rwa [List.length_map] at this
      rw [htk] at hm
      have HST2 := Lib.hid (show CL2 w ys (.int .i64 (-1)) wr from ⟨0, a1, c1, zs, -1, rfl, .inl ⟨rfl, rfl⟩, hC, hm, hf, hb⟩)
      clear hC hm hf hb htk
      go_wp2
      go_loopw [7] (fun v wr => CL2 w ys v wr) (fun v _ => (130 - intOf v).toNat)
      case atStart => exact HST2.out
      case round =>
        obtain ⟨k, a2, c2, zs, before, rfl, hor, hC, hm, hf, hb⟩ := hrel
        clear HST2
        have q0 := cell_of_row _ w.heap.size 0 _ _ _ hC.blk
        simp only [List.getElem?_toArray, List.getElem?_cons_zero] at q0
        have HLEN := Lib.hid (show zs.length = (passGN (ys.map Prod.fst) k).length by rw [← hm, List.length_map])
        by_cases hbl : before < (zs.length : Int)
        · have hdl : decide (before < (zs.length : Int)) = true := decide_eq_true hbl
          have HPA := Lib.hid (pass_any w.heap.size w.heap.size w zs a2 c2 wr hC hf hb hb.size)
          have HM := Lib.hid hm
          clear hC hm hb hor
          go_wp2_with fail
          refine HPA.out.mono ?_
          rintro e5 w5 ⟨a5, c5, zs5, hC5, hb5, hor5⟩
          rcases hor5 with ⟨rfl, hm5, hf5⟩ | ⟨rfl, ps, qs, hpq, hlong⟩
          · have HR := Lib.hid (show CL2 w ys (.int .i64 (zs.length : Int)) w5 from ⟨k + 1, a5, c5, zs5, _, rfl, .inr ⟨k, rfl, by rw [HLEN.out]⟩, hC5, by rw [hm5, HM.out]; rfl, hf5, hb5⟩)
            clear hC5 hb5 hm5 hf5 HPA q0
            go_wp2_with fail
            go_roundw
            case rel => exact HR.out
            case measure => (simp [intOf] <;> omega)
          · have HP := Lib.hid (AgAns.no (l := ys.map Prod.fst) (by rw [HM.out] at hpq hlong; exact closeAns_pass hpq hlong) hb5)
            clear hC5 hb5 hpq hlong HPA q0
            go_wp2_with fail
            go_ret2
            exact HP.out
        · have hdl : decide (before < (zs.length : Int)) = false := decide_eq_false hbl
          have hfix : FixG (ys.map Prod.fst) (zs.map Prod.fst) := by
            rcases hor with ⟨h1, _⟩ | ⟨k', rfl, h1⟩
            · omega
            · have h2 : (passG (passGN (ys.map Prod.fst) k')).length = (passGN (ys.map Prod.fst) k').length := by
                obtain ⟨r, hr⟩ := passG_grow (passGN (ys.map Prod.fst) k')
                have h3 : zs.length = (passG (passGN (ys.map Prod.fst) k')).length := HLEN.out
                rw [hr, List.length_append] at h3 ⊢
                omega
              have h4 := passG_fix h2
              have h5 : passGN (ys.map Prod.fst) (k' + 1) = passGN (ys.map Prod.fst) k' := h4
              rw [hm, h5]
              exact ⟨k', rfl, h4⟩
          have hca := closeAns_ok HRL.out hfix (by rw [List.length_map]; exact hf)
          have HP := Lib.hid (show AgAns (ys.map Prod.fst) w (.returned (.tuple #[.slice a2 zs.length c2, .bool true])) wr from ⟨a2, c2, zs, by rw [hca], hC.ok, hC.own, by rw [hca], hb⟩)
          clear hC hm hf hb hor hfix hca hbl
          go_wp2
          go_ret2
          exact HP.out

end Go.Proofs.Ytgjmefcognoepaa.Pr
