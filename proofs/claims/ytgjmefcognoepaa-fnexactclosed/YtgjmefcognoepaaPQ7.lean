/-
  THE WALKS of closing.putComposed, impl.closed.
-/
import Derived.Test.YtgjmefcognoepaaPQ6
import Derived.Test.YtgjmefcognoepaaPIF
namespace Go.Proofs.Ytgjmefcognoepaa.Pr
open Go Go.RowKit Go.Maps Go.WideMaps

theorem Tab.ofList {L : List Int} (hL : L.length = 36) (hv : ∀ m, gd L m = 0 ∨ gd L m = 1 ∨ gd L m = 2) : Tab L (listOf L) := by
  have key : ∀ a b : Nat, a < 6 → b < 6 → ∀ m, m < 36 → pA m = (a : Int) → pB m = (b : Int) → m = 6 * a + b := fun a b ha hb m hm h1 h2 => by
    unfold pA at h1; unfold pB at h2
    omega
  have pa : ∀ a b : Nat, a < 6 → b < 6 → pA (6 * a + b) = (a : Int) ∧ pB (6 * a + b) = (b : Int) := fun a b ha hb => by unfold pA pB; omega
  refine ⟨hL, hv, fun a b ha hb => ⟨fun h => ?_, ?_⟩, fun a b ha hb => ⟨fun h => ?_, ?_⟩⟩
  · exact ⟨cellArc L (6 * a + b), mem_listOf.2 ⟨6 * a + b, by omega, h, rfl⟩, (pa a b ha hb).1, (pa a b ha hb).2⟩
  · rintro ⟨x, hx, h1, h2⟩
    obtain ⟨m, hm, hne, rfl⟩ := mem_listOf.1 hx
    rw [← key a b ha hb m hm h1 h2]
    exact hne
  · exact ⟨cellArc L (6 * a + b), mem_listOf.2 ⟨6 * a + b, by omega, by omega, rfl⟩, (pa a b ha hb).1, (pa a b ha hb).2, by show (gd L (6 * a + b) == 2) = true; rw [h]; rfl⟩
  · rintro ⟨x, hx, h1, h2, h3⟩
    obtain ⟨m, hm, hne, rfl⟩ := mem_listOf.1 hx
    rw [← key a b ha hb m hm h1 h2]
    exact eq_of_beq h3
theorem Tab.comp {G H : List Int} {g h : List Ar} (TG : Tab G g) (TH : Tab H h) (RG : RightA g) : Tab (thenT G H) (compA g h) := by
  rw [← thenT_list TG TH RG]
  exact Tab.ofList (thenTo_len G H 216) (thenTo_tw TG.val TH.val 216 (by omega)).val

/-- The list that was there when the pass began. -/
def There (gc : Nat) (a0 : Option Addr) (ys : List (Gr × List Int)) (w : World) : Prop := ∀ i (_ : i < ys.length), ∃ b0, a0 = some ⟨b0, 0, none⟩ ∧ b0 < w.heap.size ∧ b0 ≠ gc ∧ w.rangeAt b0 (i * 38) (gcells ys[i].1.f ys[i].1.t ys[i].2)
theorem There.start {B gc : Nat} {a : Option Addr} {c : Nat} {ys : List (Gr × List Int)} {w : World} (h : Clo B gc a c ys w) : There gc a ys w := fun i hi => by
  obtain ⟨b, hb, h1, h2, h3⟩ := ag_at h.ok h.own hi
  exact ⟨b, hb, h2, h.ne b (by rw [hb]; rfl), h3⟩
theorem There.below {gc : Nat} {a0 : Option Addr} {ys : List (Gr × List Int)} {w w' : World} (h : There gc a0 ys w) (hb : Below w.heap.size w w') : There gc a0 ys w' := fun i hi => by
  obtain ⟨b, h1, h2, h3, h4⟩ := h i hi
  exact ⟨b, h1, Nat.lt_of_lt_of_le h2 hb.size, h3, fun j v hv => (hb.cell (p := ⟨b, i * 38 + j, none⟩) h2).trans (h4 j v hv)⟩
theorem There.still {gc : Nat} {a0 : Option Addr} {ys : List (Gr × List Int)} {w w' : World} {v : Value} {n : Nat} (hok : AgOk ys) (h : There gc a0 ys w) (hs : Still gc v n w w') (hw : w.heap.size ≤ w'.heap.size) (hn : ys.length ≤ n) : There gc a0 ys w' := fun i hi => by
  obtain ⟨b, h1, h2, h3, h4⟩ := h i hi
  refine ⟨b, h1, Nat.lt_of_lt_of_le h2 hw, h3, fun j u hu => (hs.cel b (i * 38 + j) h2 h3 (.inr ?_)).trans (h4 j u hu)⟩
  have hl := gcells_len (f := ys[i].1.f) (t := ys[i].1.t) (hok _ (List.getElem_mem hi)).1.len
  have hj := (List.getElem?_eq_some_iff.1 hu).1
  omega
theorem map_get {ys : List (Gr × List Int)} {i : Nat} (hi : i < ys.length) : ∃ h : i < (ys.map Prod.fst).length, (ys.map Prod.fst)[i] = ys[i].1 := ⟨by simpa using hi, List.getElem_map _⟩

def PassPost (B gc : Nat) (wb : World) (N : List Gr) (e : Ending) (w' : World) : Prop := ∃ (a : Option Addr) (c : Nat) (zs : List (Gr × List Int)), Clo B gc a c zs w' ∧ Below B wb w' ∧
  ((e = .returned (.bool true) ∧ zs.map Prod.fst = passG N ∧ zs.length ≤ 120) ∨ (e = .returned (.bool false) ∧ ∃ ps qs, pairsG N = ps ++ qs ∧ 120 < (ps.foldl addC N).length))
/-- Ahead of the pair (i, k). -/
structure PSt (B gc : Nat) (wb : World) (a0 : Option Addr) (ys : List (Gr × List Int)) (i k : Nat) (zs : List (Gr × List Int)) (a : Option Addr) (c : Nat) (wr : World) : Prop where
  clo : Clo B gc a c zs wr
  eq : zs.map Prod.fst = (pairsTo (ys.map Prod.fst) i k).foldl addC (ys.map Prod.fst)
  few : zs.length ≤ 120
  there : There gc a0 ys wr
  below : Below B wb wr
theorem PSt.step {B gc : Nat} {wb : World} {a0 : Option Addr} {ys : List (Gr × List Int)} {i k : Nat} {zs : List (Gr × List Int)} {a : Option Addr} {c : Nat} {wr w' : World} (h : PSt B gc wb a0 ys i k zs a c wr) (hB : B ≤ wr.heap.size) (hb : Below wr.heap.size wr w') : PSt B gc wb a0 ys i k zs a c w' :=
  ⟨h.clo.kept hb, h.eq, h.few, h.there.below hb, h.below.trans (hb.mono hB)⟩
def PO (B gc : Nat) (wb : World) (a0 : Option Addr) (ys : List (Gr × List Int)) (v : Value) (wr : World) : Prop := ∃ (i : Nat) (a : Option Addr) (c : Nat) (zs : List (Gr × List Int)), v = .int .i64 (i : Int) ∧ i ≤ ys.length ∧ PSt B gc wb a0 ys i 0 zs a c wr
def PI2 (B gc : Nat) (wb : World) (a0 : Option Addr) (ys : List (Gr × List Int)) (i PB : Nat) (p : Gr × List Int) (v : Value) (wr : World) : Prop := ∃ (k : Nat) (a : Option Addr) (c : Nat) (zs : List (Gr × List Int)), v = .int .i64 (k : Int) ∧ k ≤ ys.length ∧ PSt B gc wb a0 ys i k zs a c wr ∧ GB wr PB p.1.f p.1.t p.2 ∧ ∀ b, (Value.slice a zs.length c).ownBlock = some b → b ≠ PB

set_option maxRecDepth 100000 in
set_option maxHeartbeats 8000000 in
theorem pass_any (B gc : Nat) (wb : World) (ys : List (Gr × List Int)) (a : Option Addr) (c : Nat) (w : World) (hC : Clo B gc a c ys w) (hn : ys.length ≤ 120) (hb : Below B wb w) (hB : B ≤ w.heap.size) :
    Calls Try.prog 29 #[.pointer (some ⟨gc, 0, none⟩)] w (PassPost B gc wb (ys.map Prod.fst)) := by
  have q0 := cell_of_row _ gc 0 _ _ _ hC.blk
  simp only [List.getElem?_toArray, List.getElem?_cons_zero] at q0
  have HOK := Lib.hid hC.ok
  have HBW := Lib.hid hB
  have HST := Lib.hid (show PO B gc w a ys (.int .i64 0) w from ⟨0, a, c, ys, rfl, Nat.zero_le _, hC, by rw [pairsTo_zero]; rfl, hn, There.start hC, Below.refl _ _⟩)
  have HWB := Lib.hid hb
  clear hC hb
  go_enter Try.func29, Try.ntmps29
  go_wp2
  clear q0
  go_loopw [14] (fun v wr => PO B gc w a ys v wr) (fun v _ => (ys.length - (intOf v).toNat))
  case atStart => exact HST.out
  case round =>
    obtain ⟨i, a1, c1, zs, rfl, hi, hS⟩ := hrel
    clear HST
    have hBr : B ≤ wr.heap.size := Nat.le_trans hB hS.below.size
    by_cases hlt : i < ys.length
    · have hd : decide ((i : Int) < (ys.length : Int)) = true := decide_eq_true (by omega)
      obtain ⟨b0, rfl, hb1, hb2, hrg⟩ := hS.there i hlt
      have hAi := HOK.out _ (List.getElem_mem hlt)
      obtain ⟨hlm, hmi⟩ := map_get hlt
      have HLI := Lib.hid (show (Try.prog.info? 49).map (·.size) = some (gcells ys[i].1.f ys[i].1.t ys[i].2).length by rw [infoSAG, gcells_len hAi.1.len])
      have HSI := Lib.hid (gcells_size (f := ys[i].1.f) (t := ys[i].1.t) hAi.1.len)
      have HZI := Lib.hid (z36_size (f := ys[i].1.f) (t := ys[i].1.t) hAi.1.len)
      have HAI := Lib.hid hAi
      have HMI := Lib.hid hmi
      have HZ := Lib.hid (heap_alloc_new wr (.cells (gcells 0 0 z36).toArray 49))
      have hgb := setRow_heap _ wr.heap.size _ (gcells ys[i].1.f ys[i].1.t ys[i].2).toArray _ _ HZ.out
      have hbl := below_setRow (below_alloc (Below.refl wr.heap.size wr) (.cells (gcells 0 0 z36).toArray 49)) (g := wr.heap.size) (gcells ys[i].1.f ys[i].1.t ys[i].2).toArray (Nat.le_refl _)
      have hSt := hS.step hBr hbl
      have hown : ∀ b, (Value.slice a1 zs.length c1).ownBlock = some b → b ≠ wr.heap.size := fun b h => by have := (own_lt3 hS.clo.own h).2; omega
      have hlen0 : zs.length = zs.length := rfl
      obtain ⟨p, hp⟩ : ∃ p, ys[i] = p := ⟨_, rfl⟩
      rw [hp] at hrg HLI HSI HZI HAI HMI hgb hbl hSt
      obtain ⟨w2, hw2⟩ : ∃ w2, (wr.alloc (.cells (gcells 0 0 z36).toArray 49)).setRow wr.heap.size (gcells p.1.f p.1.t p.2).toArray = w2 := ⟨_, rfl⟩
      rw [hw2] at hgb hbl hSt
      have HW2 := Lib.hid hw2
      have HST2 := Lib.hid (show PI2 B gc w (some ⟨b0, 0, none⟩) ys i wr.heap.size p (.int .i64 0) w2 from ⟨0, a1, c1, zs, rfl, Nat.zero_le _, hSt, hgb, hown⟩)
      have z1 : (0 : Int) ≤ (i : Int) := by omega
      have z2 : (i : Int) < (ys.length : Int) := by omega
      clear hS hgb hbl hSt hown hlen0 hw2 hAi hmi hp
      go_wp2_with (first
        | (with_reducible refine at_load 49 16 ?_
           refine wpList_load_mid rfl 49 (.tmp 16) rfl b0 (i * 38) rfl _ _ hrg Try.underlying49 rfl HLI.out ?_)
        | (with_reducible refine at_store 49 5 17 ?_
           refine wpList_store_row rfl 49 (.tmp 5) (.tmp 17) rfl wr.heap.size (gcells p.1.f p.1.t p.2).toArray rfl rfl 49 _ HZ.out HSI.out HZI.out (gcells_one _ _ _) ?_
           erw [HW2.out])
        | fail)
      obtain ⟨PB, hPB⟩ : ∃ PB, wr.heap.size = PB := ⟨_, rfl⟩
      rw [hPB] at HST2 ⊢
      clear hPB HZ HW2 HZI
      go_loopw [20] (fun v wr => PI2 B gc w (some ⟨b0, 0, none⟩) ys i PB p v wr) (fun v _ => (ys.length - (intOf v).toNat))
      case atStart => exact HST2.out
      case round =>
        obtain ⟨k, a2, c2, zs, rfl, hk, hS, hGB, hown⟩ := hrel
        clear HST2
        have hBr : B ≤ wr.heap.size := Nat.le_trans hB hS.below.size
        by_cases hkl : k < ys.length
        · have hd3 : decide ((k : Int) < (ys.length : Int)) = true := decide_eq_true (by omega)
          obtain ⟨b0', hb0', hb3, hb4, hrk⟩ := hS.there k hkl
          cases hb0'
          have hAk := HOK.out _ (List.getElem_mem hkl)
          obtain ⟨hkm, hmk⟩ := map_get hkl
          have hstep : (pairsTo (ys.map Prod.fst) i (k + 1)).foldl addC (ys.map Prod.fst) = addC (zs.map Prod.fst) (p.1, ys[k].1) := by
            rw [pairsTo_step (l := ys.map Prod.fst) (i := i) (k := k) (by simpa using hlt) (by simpa using hkl), List.foldl_append, ← hS.eq]
            have h1 : (ys.map Prod.fst)[i]'(by simpa using hlt) = p.1 := HMI.out
            have h2 : (ys.map Prod.fst)[k]'(by simpa using hkl) = ys[k].1 := hmk
            rw [h1, h2]; rfl
          have HLK := Lib.hid (show (Try.prog.info? 49).map (·.size) = some (gcells ys[k].1.f ys[k].1.t ys[k].2).length by rw [infoSAG, gcells_len hAk.1.len])
          have HSK := Lib.hid (gcells_size (f := ys[k].1.f) (t := ys[k].1.t) hAk.1.len)
          have HZK := Lib.hid (z36_size (f := ys[k].1.f) (t := ys[k].1.t) hAk.1.len)
          have HZ := Lib.hid (heap_alloc_new wr (.cells (gcells 0 0 z36).toArray 49))
          have hgb := setRow_heap _ wr.heap.size _ (gcells ys[k].1.f ys[k].1.t ys[k].2).toArray _ _ HZ.out
          have hbl := below_setRow (below_alloc (Below.refl wr.heap.size wr) (.cells (gcells 0 0 z36).toArray 49)) (g := wr.heap.size) (gcells ys[k].1.f ys[k].1.t ys[k].2).toArray (Nat.le_refl _)
          have hSt := hS.step hBr hbl
          have hGB2 := hGB.below hbl
          obtain ⟨q, hq⟩ : ∃ q, ys[k] = q := ⟨_, rfl⟩
          rw [hq] at hrk hAk hstep HLK HSK HZK hgb hbl hSt hGB2
          obtain ⟨w2, hw2⟩ : ∃ w2, (wr.alloc (.cells (gcells 0 0 z36).toArray 49)).setRow wr.heap.size (gcells q.1.f q.1.t q.2).toArray = w2 := ⟨_, rfl⟩
          rw [hw2] at hgb hbl hSt hGB2
          have HW2 := Lib.hid hw2
          have hGH : GB w2 wr.heap.size q.1.f q.1.t q.2 := hgb
          have HGH := Lib.hid hGH
          have HGG := Lib.hid hGB2
          have y1 := hGB2.c1
          have y0 := hGH.c0
          have HSt := Lib.hid hSt
          have HOWN := Lib.hid hown
          have HSTEP := Lib.hid hstep
          have HAK := Lib.hid hAk
          have HTH := Lib.hid (then_any p.1.f p.1.t q.1.f q.1.t p.2 q.2 HAI.out.1.len hAk.1.len w2)
          have HBR := Lib.hid hBr
          have HPB := Lib.hid hGB.lt
          have HBL := Lib.hid hbl
          have z3 : (0 : Int) ≤ (k : Int) := by omega
          have z4 : (k : Int) < (ys.length : Int) := by omega
          clear hS hGB hown hstep hgb hbl hSt hGB2 hGH hAk hmk hq hw2
          by_cases hpt : p.1.t = q.1.f
          · have hee : (p.1.t == q.1.f) = true := by rw [beq_iff_eq]; exact hpt
            have HPT := Lib.hid hpt
            clear hpt
            go_wp2_with (first
              | (with_reducible refine at_load 49 22 ?_
                 refine wpList_load_mid rfl 49 (.tmp 22) rfl b0 (k * 38) rfl _ _ hrk Try.underlying49 rfl HLK.out ?_)
              | (with_reducible refine at_store 49 7 23 ?_
                 refine wpList_store_row rfl 49 (.tmp 7) (.tmp 23) rfl wr.heap.size (gcells q.1.f q.1.t q.2).toArray rfl rfl 49 _ HZ.out HSK.out HZK.out (gcells_one _ _ _) ?_
                 erw [HW2.out])
              | (with_reducible refine at_load_g 49 5 ?_
                 refine wpList_load_row_g (by rfl) 49 (.tmp 5) rfl PB rfl 49 _ (0, 0) _ HGG.out Try.underlying49 rfl HSI.out ?_)
              | (with_reducible refine at_load_g 49 7 ?_
                 refine wpList_load_row_g (by rfl) 49 (.tmp 7) rfl wr.heap.size rfl 49 _ (0, 0) _ HGH.out Try.underlying49 rfl HSK.out ?_)
              | fail)
            refine HTH.out.mono ?_
            rintro e3 w3 ⟨rfl, hb3w⟩
            have hSt3 := HSt.out.step (Nat.le_trans HBR.out HBL.out.size) hb3w
            have HPU := Lib.hid (show Calls Try.prog 28 #[.pointer (some ⟨gc, 0, none⟩), .agg (gcells p.1.f q.1.t (thenT p.2 q.2)).toArray] w3 (PutPost B gc w (.slice a2 zs.length c2) zs.length (zs.map Prod.fst) (cmpG p.1 q.1) w3) from put_any B gc w zs a2 c2 (cmpG p.1 q.1) (thenT p.2 q.2) (HAI.out.1.comp HAK.out.1 HAI.out.2) (comp_right _ _) w3 hSt3.clo hSt3.few hSt3.below (Nat.le_trans HBW.out hSt3.below.size))
            have HST3 := Lib.hid hSt3
            have HG3 := Lib.hid (HGG.out.below hb3w)
            clear hb3w hSt3 y0 y1 HTH
            go_wp2_with fail
            refine HPU.out.mono ?_
            rintro e4 w4 ⟨a3, c3, zs3, rfl, hC3, hm3, hb3', hst3, hnew3⟩
            have hadd : addC (zs.map Prod.fst) (p.1, q.1) = addG (zs.map Prod.fst) (cmpG p.1 q.1) := by unfold addC; rw [if_pos HPT.out]
            have hPB3 : PB < w3.heap.size := HG3.out.lt
            have hPBg : PB ≠ gc := fun e => by
              have h1 : w3.heap[PB]? = some (.cells (gcells p.1.f p.1.t p.2).toArray 49 (0, 0)) := HG3.out
              have h2 := HST3.out.clo.blk
              rw [e, h2] at h1
              have h3 := congrArg (fun o => match o with | some (Obj.cells c _ _) => c.size | _ => 0) h1
              simp [gcells_len HAI.out.1.len] at h3
            have hs4 : w3.heap.size ≤ w4.heap.size := hst3.size
            have hne3 : (Value.slice a2 zs.length c2).ownBlock ≠ some PB := fun h => HOWN.out PB h rfl
            have hle3 : zs.length ≤ zs3.length := by
              obtain ⟨r, hr⟩ := addG_grow (zs.map Prod.fst) (cmpG p.1 q.1)
              have h1 := congrArg List.length (hm3.trans hr)
              rw [List.length_map, List.length_append, List.length_map] at h1
              omega
            by_cases hz : zs3.length ≤ 120
            · have hdz : decide (zs3.length ≤ 120) = true := decide_eq_true hz
              rw [hdz]
              have HR := Lib.hid (show PI2 B gc w (some ⟨b0, 0, none⟩) ys i PB p (.int .i64 ((k : Int) + 1)) w4 from ⟨k + 1, a3, c3, zs3, by go_num, by omega, ⟨hC3, by rw [HSTEP.out, hadd]; exact hm3, hz, HST3.out.there.still HOK.out hst3 hs4 (by
                obtain ⟨r, hr⟩ := foldl_grow addC_grow (pairsTo (ys.map Prod.fst) i k) (ys.map Prod.fst)
                have h1 := congrArg List.length (HST3.out.eq.trans hr)
                rw [List.length_map, List.length_append, List.length_map] at h1
                omega), hb3'⟩, (hst3.blk PB hPB3 hPBg hne3).trans HG3.out, fun b h e => by
                rcases hnew3 b h with h2 | h2
                · exact HOWN.out b h2 e
                · omega⟩)
              clear hC3 hm3 hb3' hst3 hnew3 hadd hPB3 hne3 hle3 hdz hz HPU
              go_wp2_with fail
              go_roundw
              case rel => exact HR.out
              case measure => (simp [intOf] <;> omega)
            · have hdz : decide (zs3.length ≤ 120) = false := decide_eq_false hz
              rw [hdz]
              have HP := Lib.hid (show PassPost B gc wb (ys.map Prod.fst) (.returned (.bool false)) w4 from ⟨a3, c3, zs3, hC3, HWB.out.trans hb3', .inr ⟨rfl, by
                obtain ⟨qs, hqs⟩ := pairsTo_part (l := ys.map Prod.fst) (i := i) (k := k + 1) (by simpa using hlt) (by rw [List.length_map]; omega)
                refine ⟨_, qs, hqs, ?_⟩
                rw [HSTEP.out, hadd, ← hm3, List.length_map]
                omega⟩⟩)
              clear hC3 hm3 hb3' hst3 hnew3 hadd hPB3 hne3 hle3 hdz hz HPU
              go_wp2_with fail
              go_ret
              exact HP.out
          · have hee : (p.1.t == q.1.f) = false := by rw [beq_eq_false_iff_ne]; exact hpt
            have hadd : addC (zs.map Prod.fst) (p.1, q.1) = zs.map Prod.fst := by unfold addC; rw [if_neg hpt]
            have HR := Lib.hid (show PI2 B gc w (some ⟨b0, 0, none⟩) ys i PB p (.int .i64 ((k : Int) + 1)) w2 from ⟨k + 1, a2, c2, zs, by go_num, by omega, ⟨HSt.out.clo, by rw [HSTEP.out, hadd], HSt.out.few, HSt.out.there, HSt.out.below⟩, HGG.out, HOWN.out⟩)
            clear hadd hpt HTH
            go_wp2_with (first
              | (with_reducible refine at_load 49 22 ?_
                 refine wpList_load_mid rfl 49 (.tmp 22) rfl b0 (k * 38) rfl _ _ hrk Try.underlying49 rfl HLK.out ?_)
              | (with_reducible refine at_store 49 7 23 ?_
                 refine wpList_store_row rfl 49 (.tmp 7) (.tmp 23) rfl wr.heap.size (gcells q.1.f q.1.t q.2).toArray rfl rfl 49 _ HZ.out HSK.out HZK.out (gcells_one _ _ _) ?_
                 erw [HW2.out])
              | fail)
            go_roundw
            case rel => exact HR.out
            case measure => (simp [intOf] <;> omega)
        · obtain rfl : k = ys.length := by omega
          have hd3 : decide ((ys.length : Int) < (ys.length : Int)) = false := by simp
          have HR := Lib.hid (show PO B gc w (some ⟨b0, 0, none⟩) ys (.int .i64 ((i : Int) + 1)) wr from ⟨i + 1, a2, c2, zs, by go_num, by omega, hS.clo, by
            rw [hS.eq]
            have h1 := pairsTo_row (l := ys.map Prod.fst) (i := i) (by simpa using hlt)
            rw [List.length_map] at h1
            rw [h1], hS.few, hS.there, hS.below⟩)
          clear hS hGB hown
          go_wp2
          go_roundw
          case rel => exact HR.out
          case measure => (simp [intOf] <;> omega)
    · obtain rfl : i = ys.length := by omega
      have hd : decide ((ys.length : Int) < (ys.length : Int)) = false := by simp
      have HP := Lib.hid (show PassPost B gc wb (ys.map Prod.fst) (.returned (.bool true)) wr from ⟨a1, c1, zs, hS.clo, HWB.out.trans hS.below, .inl ⟨rfl, by
        rw [hS.eq]
        have h1 := pairsTo_all (ys.map Prod.fst)
        rw [List.length_map] at h1
        rw [h1]; rfl, hS.few⟩⟩)
      clear hS
      go_wp2
      go_ret
      exact HP.out

end Go.Proofs.Ytgjmefcognoepaa.Pr
