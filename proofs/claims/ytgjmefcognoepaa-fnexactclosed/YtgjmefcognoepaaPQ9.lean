/-
  THE WALKS of impl.graphsFrom, impl.Closed.
-/
import Derived.Test.YtgjmefcognoepaaPQ8
import Derived.Test.YtgjmefcognoepaaPQ4
import Derived.Test.YtgjmefcognoepaaPIC
namespace Go.Proofs.Ytgjmefcognoepaa.Pr
open Go Go.RowKit Go.Maps Go.WideMaps

theorem wpList_append_runG {P : Program} {w w' : World} {ops : Array Oper} {rest : List Oper} {o : Oper} {a : Act} {Q : Exit → Act → World → Prop} (hgd : o.guard = none) (s x : Operand) (t : TypeId) (ho : o.op = .call { callee := .builtin .append, args := #[s, x], argTypes := #[t, t] })
    {v u v' : Value} (hs : a.eval s = v) (hx : a.eval x = u) (hrun : ∀ ty, (Builtin.append_ #[t, t] ty #[v, u]).run P w = .ok v' w') (h : wpList P ops Q rest (a.put o.dst v') w') : wpList P ops Q (o :: rest) a w :=
  wpList_plain hgd fun _ hK => wp_append_run s x t ho hs hx hrun (hK _ _ h)
def GF (w : World) (ys : List (Gr × List Int)) (v3 v : Value) (wr : World) : Prop := ∃ (i : Nat) (a : Option Addr) (c : Nat) (xs : List (Gr × Value)), v = .int .i64 (i : Int) ∧ i ≤ ys.length ∧ v3 = .slice a xs.length c ∧ OwnGS w.heap.size wr (.slice a xs.length c) xs ∧ xs.map Prod.fst = (ys.map Prod.fst).take i ∧ Below w.heap.size w wr
def GFPost (w : World) (l : List Gr) (e : Ending) (w' : World) : Prop := ∃ (a : Option Addr) (c : Nat) (xs : List (Gr × Value)), e = .returned (.slice a xs.length c) ∧ OwnGS w.heap.size w' (.slice a xs.length c) xs ∧ xs.map Prod.fst = l ∧ Below w.heap.size w w'

set_option maxRecDepth 100000 in
set_option maxHeartbeats 8000000 in
theorem graphsFrom_any (ys : List (Gr × List Int)) (hA : AgOk ys) (a : Option Addr) (c B : Nat) (w : World) (hown : w.ownsRow B 49 38 (.slice a ys.length c) ys.length (agCells ys)) (hn : ys.length ≤ 1048575) :
    Calls Try.prog 18 #[.slice a ys.length c] w (GFPost w (ys.map Prod.fst)) := by
  have HOK := Lib.hid hA
  have HO := Lib.hid (fun (W : World) (hW : Below w.heap.size w W) => row_kept hown hW)
  have HST := Lib.hid (show GF w ys (.slice none 0 0) (.int .i64 0) w from ⟨0, none, 0, [], rfl, Nat.zero_le _, rfl, OwnGS.nil _ _, rfl, Below.refl _ _⟩)
  clear hA hown
  go_enter Try.func18, Try.ntmps18
  go_wp2
  go_loopw [3, 8] (fun v3 v wr => GF w ys v3 v wr) (fun _ v _ => (ys.length - (intOf v).toNat))
  case atStart => exact HST.out
  case round =>
    obtain ⟨i, a1, c1, xs, rfl, hi, rfl, hO, hm, hb⟩ := hrel
    clear HST
    by_cases hlt : i < ys.length
    · have hd : decide ((i : Int) < (ys.length : Int)) = true := decide_eq_true (by omega)
      obtain ⟨b0, rfl, hb1, hb2, hrg⟩ := ag_at HOK.out (HO.out wr hb) hlt
      have hAi := HOK.out _ (List.getElem_mem hlt)
      obtain ⟨hlm, hmi⟩ := map_get hlt
      have hxl : xs.length = i := by
        have := congrArg List.length hm
        rw [List.length_map, List.length_take, List.length_map] at this
        omega
      have htk : (ys.map Prod.fst).take (i + 1) = xs.map Prod.fst ++ [ys[i].1] := by
        rw [List.take_succ_eq_append_getElem hlm, hmi, hm]
      have HLI := Lib.hid (show (Try.prog.info? 49).map (·.size) = some (gcells ys[i].1.f ys[i].1.t ys[i].2).length by rw [infoSAG, gcells_len hAi.1.len])
      have HSI := Lib.hid (gcells_size (f := ys[i].1.f) (t := ys[i].1.t) hAi.1.len)
      have HZI := Lib.hid (z36_size (f := ys[i].1.f) (t := ys[i].1.t) hAi.1.len)
      have HZ := Lib.hid (heap_alloc_new wr (.cells (gcells 0 0 z36).toArray 49))
      have hgb := setRow_heap _ wr.heap.size _ (gcells ys[i].1.f ys[i].1.t ys[i].2).toArray _ _ HZ.out
      have hbl := below_setRow (below_alloc (Below.refl wr.heap.size wr) (.cells (gcells 0 0 z36).toArray 49)) (g := wr.heap.size) (gcells ys[i].1.f ys[i].1.t ys[i].2).toArray (Nat.le_refl _)
      obtain ⟨p, hp⟩ : ∃ p, ys[i] = p := ⟨_, rfl⟩
      rw [hp] at hrg HLI HSI HZI hAi hgb hbl htk
      obtain ⟨w2, hw2⟩ : ∃ w2, (wr.alloc (.cells (gcells 0 0 z36).toArray 49)).setRow wr.heap.size (gcells p.1.f p.1.t p.2).toArray = w2 := ⟨_, rfl⟩
      rw [hw2] at hgb hbl
      have HW2 := Lib.hid hw2
      have HGR := Lib.hid (graph_any p.1.f p.1.t p.2 hAi.1.len w2)
      have HGB := Lib.hid hgb
      have HTK := Lib.hid htk
      have HXL := Lib.hid hxl
      have HLO := Lib.hid (hAi.1.list hAi.2)
      have HOX := Lib.hid hO
      have HBL := Lib.hid hbl
      have HB := Lib.hid hb
      have z1 : (0 : Int) ≤ (i : Int) := by omega
      have z2 : (i : Int) < (ys.length : Int) := by omega
      clear hO hm hb hgb hbl hAi htk hw2 hmi hp hxl
      go_wp2_with (first
        | (with_reducible refine at_load 49 10 ?_
           refine wpList_load_mid rfl 49 (.tmp 10) rfl b0 (i * 38) rfl _ _ hrg Try.underlying49 rfl HLI.out ?_)
        | (with_reducible refine at_store 49 5 11 ?_
           refine wpList_store_row rfl 49 (.tmp 5) (.tmp 11) rfl wr.heap.size (gcells p.1.f p.1.t p.2).toArray rfl rfl 49 _ HZ.out HSI.out HZI.out (gcells_one _ _ _) ?_
           erw [HW2.out])
        | (with_reducible refine at_load 49 5 ?_
           refine wpList_load_row rfl 49 (.tmp 5) rfl wr.heap.size rfl 49 _ (0, 0) _ HGB.out Try.underlying49 rfl HSI.out ?_)
        | fail)
      refine HGR.out.mono ?_
      rintro e3 w3 ⟨v3, rfl, hy, hb3⟩
      obtain ⟨av, cv, rfl⟩ := owns_shape hy
      rw [HLO.out] at hy ⊢
      have hb13 := below_step HBL.out hb3
      obtain ⟨g', cap, w4, hrun, hO4, hb4, hs4, hk4⟩ := HOX.out.push hb13 p.1 (owns_mono HBL.out.size hy) rfl (by have := HXL.out; omega) HB.out HB.out.size
      have HRUN := Lib.hid hrun
      have HR := Lib.hid (show GF w ys (.slice (some ⟨g', 0, none⟩) (xs.length + 1) cap) (.int .i64 ((i : Int) + 1)) w4 from ⟨i + 1, some ⟨g', 0, none⟩, cap, xs ++ [(p.1, .slice av p.1.rs.length cv)], by go_num, by omega, by rw [List.length_append]; rfl, by rw [List.length_append]; exact hO4, by rw [List.map_append, HTK.out]; rfl, hb4⟩)
      clear hy hb3 hb13 hrun hO4 hb4 hs4 hk4 HGR
      go_wp2_with (first
        | (at_builtin
           refine wpList_append_runG rfl _ _ _ rfl rfl rfl HRUN.out ?_)
        | fail)
      go_roundw
      case rel => exact HR.out
      case measure => (simp [intOf] <;> omega)
    · obtain rfl : i = ys.length := by omega
      have hd : decide ((ys.length : Int) < (ys.length : Int)) = false := by simp
      have htk : (ys.map Prod.fst).take ys.length = ys.map Prod.fst := by
        have := List.take_length (l := ys.map Prod.fst)
        rwa [List.length_map] at this
      have HP := Lib.hid (show GFPost w (ys.map Prod.fst) (.returned (.slice a1 xs.length c1)) wr from ⟨a1, c1, xs, rfl, hO, by rw [hm, htk], hb⟩)
      clear hO hm hb htk
      go_wp2
      go_ret
      exact HP.out

/-- One more graph as a table at the end, out of the block P of its own. -/
theorem ag_push {B : Nat} {a : Option Addr} {c : Nat} {ys : List (Gr × List Int)} {w1 w0 : World} (_hA : AgOk ys) (hown : w1.ownsRow B 49 38 (.slice a ys.length c) ys.length (agCells ys)) {g : Gr} {L : List Int} (hT : Tab L g.rs) {P : Nat} (hP : w1.heap[P]? = some (.cells (gcells g.f g.t L).toArray 49 (0, 0))) (hn : ys.length ≤ 1048575) (hb : Below B w0 w1) (hB : B ≤ w1.heap.size) :
    ∃ g' cap w2, (∀ ty, (Builtin.append_ #[43, 43] ty #[.slice a ys.length c, .slice (some ⟨P, 0, none⟩) 1 1]).run Try.prog w1 = .ok (.slice (some ⟨g', 0, none⟩) (ys.length + 1) cap) w2) ∧
      w2.ownsRow B 49 38 (.slice (some ⟨g', 0, none⟩) (ys.length + 1) cap) (ys.length + 1) (agCells (ys ++ [(g, L)])) ∧ Below B w0 w2 := by
  have hi := infoAG
  obtain ⟨i0, hi0⟩ := infoE infoSAG
  rw [hi0] at hi
  simp only [Option.map_some, Option.some.injEq, Prod.mk.injEq] at hi
  obtain ⟨hz, hsz, hby⟩ := hi
  obtain ⟨z, hzz, hz38⟩ : ∃ z, i0.zero = some z ∧ z.cells.size = 38 := by
    cases hq : i0.zero with
    | none => rw [hq] at hz; cases hz
    | some z => rw [hq] at hz; exact ⟨z, rfl, Option.some.inj hz⟩
  have hgl := gcells_len (f := g.f) (t := g.t) hT.len
  have hne : ∀ j u, (gcells g.f g.t L)[j]? = some u → w1.cell? ((⟨P, 0, none⟩ : Addr).add j) = some u := fun j u hu => by
    rw [hown_add3, Nat.zero_add, cell_of_row _ P j _ _ _ hP, List.getElem?_toArray]; exact hu
  obtain ⟨g', cap, w2, a1, a2, a3, a4, a5⟩ := run_append_lies (P := Try.prog) w1 43 0 B 49 i0 z 38 56 Try.underlying43 hi0 hzz hsz hby hz38 (by omega) (.slice a ys.length c) ys.length _ hown ⟨P, 0, none⟩ 1 1 (gcells g.f g.t L) (by omega) hne gcells_cell1 (by omega) (by unfold maxLen; omega) (by omega) hB _ rfl
  exact ⟨g', cap, w2, fun ty => a1, by rw [agCells_snoc]; exact a2, hb.grown a3 hB (own_ge hown)⟩
theorem wpList_ag {ops : Array Oper} {rest : List Oper} {o : Oper} {a : Act} {w : World} {Q : Exit → Act → World → Prop} (hgd : o.guard = none) (x : Operand) (ho : o.op = .buildSlice 43 1 #[(0, x)]) {f t : Int} {L : List Int} (hL : L.length = 36) (hx : a.eval x = .agg (gcells f t L).toArray)
    (h : wpList Try.prog ops Q rest (a.put o.dst (.slice (some ⟨w.heap.size, 0, none⟩) 1 1)) (w.alloc (.cells (gcells f t L).toArray 49))) : wpList Try.prog ops Q (o :: rest) a w :=
  wpList_plain hgd fun _ hK => wp_ag x ho hL hx (hK _ _ h)
theorem at_bslice {P : Program} {ops : Array Oper} {rest : List Oper} {d : Option Tmp} {p : String} {t0 : TypeId} {af : Array _} {a : Act} {w : World} {Q : Exit → Act → World → Prop} (ty : TypeId) (n : Nat) (ps : Array (Nat × Operand))
    (h : wpList P ops Q ({ dst := d, op := .buildSlice ty n ps, type := t0, pos := p, after := af, guard := none } :: rest) a w) : wpList P ops Q ({ dst := d, op := .buildSlice ty n ps, type := t0, pos := p, after := af, guard := none } :: rest) a w := h
def CI (w : World) (l : List Gr) (v3 v : Value) (wr : World) : Prop := ∃ (i : Nat) (a : Option Addr) (c : Nat) (ys : List (Gr × List Int)), v = .int .i64 (i : Int) ∧ i ≤ l.length ∧ v3 = .slice a ys.length c ∧ AgOk ys ∧ wr.ownsRow w.heap.size 49 38 (.slice a ys.length c) ys.length (agCells ys) ∧ ys.map Prod.fst = l.take i ∧ Below w.heap.size w wr

set_option maxRecDepth 100000 in
set_option maxHeartbeats 8000000 in
theorem implClosed_any (l : List Gr) (al : Option Addr) (cl : Nat) (S : Nat → Prop) (w : World) (hrow : RowIn FGr 3 S w al l) (hS : ∀ b, S b → b < w.heap.size) (hn : l.length ≤ 1048576) (hl : ∀ g ∈ l, g.rs.length ≤ 1048576) :
    Calls Try.prog 7 #[.slice al l.length cl] w (ClsPost l w) := by
  have HROW := Lib.hid (fun (W : World) (h : Below w.heap.size w W) => RowIn.kept FGr_keeps hrow (Same.below hS h))
  have HS := Lib.hid (fun (W : World) (h : Below w.heap.size w W) (b : Nat) (hb : S b) => Nat.lt_of_lt_of_le (hS b hb) h.size)
  have HL := Lib.hid hl
  have HST := Lib.hid (show CI w l (.slice none 0 0) (.int .i64 0) w from ⟨0, none, 0, [], rfl, Nat.zero_le _, rfl, fun p hp => by simp at hp, World.ownsRow_nil _ _ _ _, rfl, Below.refl _ _⟩)
  clear hrow hS hl
  go_enter Try.func7, Try.ntmps7
  go_wp2
  go_loopw [4, 13] (fun v3 v wr => CI w l v3 v wr) (fun _ v _ => (l.length - (intOf v).toNat))
  case atStart => exact HST.out
  case round =>
    obtain ⟨i, a1, c1, ys, rfl, hi, rfl, hA, hO, hm, hb⟩ := hrel
    clear HST
    by_cases hlt : i < l.length
    · have hd : decide ((i : Int) < (l.length : Int)) = true := decide_eq_true (by omega)
      obtain ⟨b, off, vs, rfl, hSb, hvl, hcc, hFF⟩ := HROW.out wr hb i hlt
      have hF0 := hFF
      obtain ⟨ars, crs, rfl, hra⟩ := hFF
      have x0 : wr.cell? ⟨b, off + i * 3, none⟩ = some (.int .i64 l[i].f) := hcc 0 (by simp)
      have x1 : wr.cell? ⟨b, off + i * 3 + 1, none⟩ = some (.int .i64 l[i].t) := hcc 1 (by simp)
      have x2 : wr.cell? ⟨b, off + i * 3 + 2, none⟩ = some (.slice ars l[i].rs.length crs) := hcc 2 (by simp)
      have hgl := HL.out _ (List.getElem_mem hlt)
      have htk : l.take (i + 1) = l.take i ++ [l[i]] := List.take_succ_eq_append_getElem hlt
      have hxl : ys.length = i := by
        have := congrArg List.length hm
        rw [List.length_map, List.length_take] at this
        omega
      have HNA := Lib.hid (fun (W : World) (hW : Below wr.heap.size wr W) => newArc_any l[i] _ S W (FGr_keeps.1 _ _ _ _ _ hF0 (Same.below (HS.out wr hb) hW)) (HS.out W (below_step hb hW)) hgl)
      have HMEM := Lib.hid (List.getElem_mem hlt)
      have HTK := Lib.hid htk
      have HXL := Lib.hid hxl
      have HA := Lib.hid hA
      have HOO := Lib.hid (fun (W : World) (hW : Below wr.heap.size wr W) => row_kept hO hW)
      have HM := Lib.hid hm
      have HB := Lib.hid hb
      have z1 : (0 : Int) ≤ (i : Int) := by omega
      have z2 : (i : Int) < (l.length : Int) := by omega
      obtain ⟨g, hg⟩ : ∃ g, l[i] = g := ⟨_, rfl⟩
      rw [hg] at x0 x1 x2 HNA HMEM HTK
      have hbg : Below wr.heap.size wr (wr.alloc (.cells #[.int .i64 g.f, .int .i64 g.t, .slice ars g.rs.length crs] 38)) := below_alloc (Below.refl _ _) _
      have HBG := Lib.hid hbg
      clear hA hO hm hb hcc hF0 hra hvl hSb hgl htk hxl hg hbg
      go_wp2_with fail
      refine (HNA.out _ HBG.out).mono ?_
      rintro e3 w3 he
      obtain ⟨f1, t1, L1, ok1, rfl, hL1, hy1, hn1, hb3⟩ := he.any
      have HB3 := Lib.hid (below_step HBG.out hb3)
      have HZ := Lib.hid (heap_alloc_new w3 (.cells (gcells 0 0 z36).toArray 49))
      have HS1 := Lib.hid (gcells_size (f := f1) (t := t1) hL1)
      have HZ1 := Lib.hid (z36_size (f := f1) (t := t1) hL1)
      have hgb := setRow_heap _ w3.heap.size _ (gcells f1 t1 L1).toArray _ _ HZ.out
      have hbl := below_setRow (below_alloc HB3.out (.cells (gcells 0 0 z36).toArray 49)) (g := w3.heap.size) (gcells f1 t1 L1).toArray HB3.out.size
      obtain ⟨w4, hw4⟩ : ∃ w4, (w3.alloc (.cells (gcells 0 0 z36).toArray 49)).setRow w3.heap.size (gcells f1 t1 L1).toArray = w4 := ⟨_, rfl⟩
      rw [hw4] at hgb hbl
      have HW4 := Lib.hid hw4
      have HGB := Lib.hid hgb
      have HB4 := Lib.hid hbl
      have HY1 := Lib.hid hy1
      have HN1 := Lib.hid hn1
      have HL1 := Lib.hid hL1
      clear he hL1 hy1 hn1 hb3 hgb hbl hw4 HNA x0 x1 x2
      cases ok1 with
      | false =>
        have HP := Lib.hid (show ClsPost l w (.returned (.tuple #[.slice none 0 0, .bool false])) w4 from ClsPost.none (closeAns_wrong fun h => HN1.out rfl (h _ HMEM.out)) (OwnGS.nil _ _) (below_step HB.out HB4.out))
        go_wp2_with (first
          | (with_reducible refine at_store 49 7 20 ?_
             refine wpList_store_row rfl 49 (.tmp 7) (.tmp 20) rfl w3.heap.size (gcells f1 t1 L1).toArray rfl rfl 49 _ HZ.out HS1.out HZ1.out (gcells_one _ _ _) ?_
             erw [HW4.out])
          | fail)
        go_ret2
        exact HP.out
      | true =>
        obtain ⟨rfl, rfl, hT, hR⟩ := HY1.out rfl
        have hba : Below wr.heap.size wr (w4.alloc (.cells (gcells g.f g.t L1).toArray 49)) := below_alloc HB4.out _
        obtain ⟨g', cap, w5, hrun, hO5, hb5⟩ := ag_push HA.out (HOO.out _ hba) hT (heap_alloc_new w4 (.cells (gcells g.f g.t L1).toArray 49)) (by have := HXL.out; omega) (below_step HB.out hba) (below_step HB.out hba).size
        have HRUN := Lib.hid hrun
        have HR := Lib.hid (show CI w l (.slice (some ⟨g', 0, none⟩) (ys.length + 1) cap) (.int .i64 ((i : Int) + 1)) w5 from ⟨i + 1, some ⟨g', 0, none⟩, cap, ys ++ [(g, L1)], by go_num, by omega, by rw [List.length_append]; rfl, HA.out.snoc hT hR, by rw [List.length_append]; exact hO5, by rw [List.map_append, HM.out, HTK.out]; rfl, hb5⟩)
        clear hT hR hba hrun hO5 hb5
        go_wp2_with (first
          | (with_reducible refine at_store 49 7 20 ?_
             refine wpList_store_row rfl 49 (.tmp 7) (.tmp 20) rfl w3.heap.size (gcells g.f g.t L1).toArray rfl rfl 49 _ HZ.out HS1.out HZ1.out (gcells_one _ _ _) ?_
             erw [HW4.out])
          | (with_reducible refine at_load 49 7 ?_
             refine wpList_load_row rfl 49 (.tmp 7) rfl w3.heap.size rfl 49 _ (0, 0) _ HGB.out Try.underlying49 rfl HS1.out ?_)
          | (with_reducible refine at_bslice 43 1 #[(0, .tmp 25)] ?_
             refine wpList_ag rfl (.tmp 25) rfl HL1.out rfl ?_)
          | (at_builtin
             refine wpList_append_runG rfl _ _ _ rfl rfl rfl HRUN.out ?_)
          | fail)
        go_roundw
        case rel => exact HR.out
        case measure => (simp [intOf] <;> omega)
    · obtain rfl : i = l.length := by omega
      have hd : decide ((l.length : Int) < (l.length : Int)) = false := by simp
      rw [List.take_length] at hm
      have hxl : ys.length = l.length := by rw [← hm, List.length_map]
      have HCL := Lib.hid (closed_any ys hA a1 c1 w.heap.size wr hO (by omega))
      rw [hm] at HCL
      have HB := Lib.hid hb
      clear hA hO hm hb hxl
      go_wp2_with fail
      refine HCL.out.mono ?_
      rintro e5 w5 ⟨a5, c5, zs, rfl, hA5, hO5, hm5, hb5⟩
      have hz5 : zs.length ≤ 120 := by
        have h1 := congrArg List.length hm5
        rw [List.length_map] at h1
        rw [h1]
        unfold closeAns
        split
        · rename_i h; exact (Classical.choose_spec h.2).2
        · simp
      have HGF := Lib.hid (graphsFrom_any zs hA5 a5 c5 wr.heap.size w5 hO5 (by omega))
      have HB5 := Lib.hid (below_step HB.out hb5)
      have HM5 := Lib.hid hm5
      clear hA5 hO5 hm5 hb5 HCL
      obtain ⟨okc, hok⟩ : ∃ o, (closeAns l).2 = o := ⟨_, rfl⟩
      have HOKC := Lib.hid hok
      rw [hok]
      clear hok
      go_wp2_with fail
      refine HGF.out.mono ?_
      rintro e6 w6 ⟨a6, c6, xs, rfl, hO6, hm6, hb6⟩
      have hl6 : xs.length = (closeAns l).1.length := by rw [← HM5.out, ← hm6, List.length_map]
      have HP := Lib.hid (show ClsPost l w (.returned (.tuple #[.slice a6 xs.length c6, .bool okc])) w6 from ⟨a6, c6, xs, by rw [hl6, HOKC.out], by rw [← hl6]; exact hO6.mono HB5.out.size, hm6.trans HM5.out, below_step HB5.out hb6⟩)
      clear hO6 hm6 hb6 hl6 HGF
      go_wp2_with fail
      go_ret2
      exact HP.out

end Go.Proofs.Ytgjmefcognoepaa.Pr
