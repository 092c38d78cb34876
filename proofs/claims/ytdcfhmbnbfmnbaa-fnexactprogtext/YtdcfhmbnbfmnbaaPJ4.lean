/-
  impl's ProgText.
-/
import Derived.Test.YtdcfhmbnbfmnbaaPJ3
namespace Go.Proofs.Ytdcfhmbnbfmnbaa.Pr
open Go Go.RowKit Go.Maps Go.WideMaps

/-- Lines, each with its end. -/
def linesTxt (ns : List Nd) : BA := ns.foldl (fun A n => A ++ txt n ++ ⟨#[10]⟩) ⟨#[]⟩
theorem linesTxt_snoc (ns : List Nd) (n : Nd) : linesTxt (ns ++ [n]) = linesTxt ns ++ txt n ++ ⟨#[10]⟩ := by
  unfold linesTxt
  rw [List.foldl_append]
  rfl
def progTxt (p : Pg) : BA := linesTxt (lineNds p)
open Classical in
/-- What ProgText answers. -/
noncomputable def progAns (p : Pg) : BA := if LinesOk p ∧ (progTxt p).size ≤ 3000 then progTxt p else ⟨#[]⟩
def ProgPost (p : Pg) (w : World) (e : Ending) (w' : World) : Prop := e = .returned (.string (progAns p)) ∧ Below w.heap.size w w'
def PTRel (p : Pg) (gp : Nat) (w2 : World) (vi : Value) (wr : World) : Prop :=
  ∃ (k : Nat) (o : Option Nat), vi = .int .i64 (k : Int) ∧ k ≤ (lineNds p).length ∧ Prn gp (linesTxt ((lineNds p).take k)) o wr ∧ Step gp none o w2 wr

set_option maxRecDepth 100000 in
set_option maxHeartbeats 4000000 in
theorem implProg_any (p : Pg) (vs : List Value) (S : Nat → Prop) (w : World) (hF : FPg S w vs p) (hS : ∀ b, S b → b < w.heap.size) (hw : p.wt ≤ 1048576) : Calls Try.prog 8 #[.agg vs.toArray] w (ProgPost p w) := by
  have hF0 := hF
  have hl : (lineNds p).length ≤ 1048576 := by have := hw; unfold Pg.wt wtTypeDeclS wtRelDeclS wtRuleS at this; unfold lineNds; simp; omega
  obtain ⟨a, c, ar, cr, au, cu, rfl, r0, r1, r2⟩ := hF
  have hb0 : Below w.heap.size w (w.alloc (.cells #[.slice a p.ts.length c, .slice ar p.rs.length cr, .slice au p.us.length cu] 33)) := (Below.refl _ _).alloc (Nat.le_refl _) _
  have HN := Lib.hid (lineNodes_any p _ S _ (FPg_keeps.1 _ _ _ _ _ hF0 (Same.below hS hb0)) (fun b h => Nat.lt_of_lt_of_le (hS b h) hb0.size) hw)
  have HB0 := Lib.hid hb0
  clear hF0 r0 r1 r2 hb0 hw
  go_enter Try.func8, Try.ntmps8
  go_wp2_with fail
  refine HN.out.mono ?_
  rintro e w1 ⟨⟨a1, c1, rfl, hok, hnode⟩ | ⟨rfl, hno⟩, hb1⟩
  · have hb2 : Below w1.heap.size w1 (w1.alloc (.cells #[.slice none 0 0, .bool false] 76)) := (Below.refl _ _).alloc (Nat.le_refl _) _
    have k2 := heap_alloc_new w1 (.cells #[.slice none 0 0, .bool false] 76)
    have hp2 : Prn w1.heap.size ⟨#[]⟩ none (w1.alloc (.cells #[.slice none 0 0, .bool false] 76)) := ⟨⟨_, ⟨#[]⟩, rfl, k2, World.ownsRow_nil _ _ _ _, by decide, fun _ => rfl⟩⟩
    obtain ⟨w2, hw2⟩ : ∃ w2, w1.alloc (.cells #[.slice none 0 0, .bool false] 76) = w2 := ⟨_, rfl⟩
    rw [hw2] at hb2 k2 hp2
    obtain ⟨B, hB⟩ : ∃ B : Nat → Prop, B = fun b => b < w1.heap.size := ⟨_, rfl⟩
    have HX := Lib.hid (show NodesIn B w2 (lineNds p) a1 0 from NodesIn.kept (Same.below (fun b h => h.2) hb2) (fun b h => by rw [hB]; exact h.2) _ _ _ hnode)
    have HF := Lib.hid (show Free B w1.heap.size none w2 from fun b hb => by rw [hB] at hb; exact ⟨Nat.lt_of_lt_of_le hb hb2.size, by omega, by simp⟩)
    have HST := Lib.hid (show PTRel p w1.heap.size w2 (.int .i64 0) w2 from ⟨0, none, rfl, Nat.zero_le _, hp2, Step.refl _ _ _⟩)
    have hans : (if (progTxt p).size ≤ 3000 then progTxt p else ⟨#[]⟩) = progAns p := by
      unfold progAns
      by_cases h : (progTxt p).size ≤ 3000
      · rw [if_pos h, if_pos ⟨hok, h⟩]
      · rw [if_neg h, if_neg (fun h' => h h'.2)]
    have HANS := Lib.hid hans
    have HB1 := Lib.hid (below_step HB0.out hb1)
    have HB2 := Lib.hid hb2
    obtain ⟨ns, hns⟩ : ∃ ns, lineNds p = ns := ⟨_, rfl⟩
    unfold PTRel at HST
    have HNS := Lib.hid hns
    rw [hns] at HX HST hl ⊢
    have hlt2 : w1.heap.size < w2.heap.size := lt_of_block k2
    clear hok hnode hb1 k2 hp2 hb2 hans HN hB hns hS
    go_wp2
    go_loopw [19] (fun v19 wr => ∃ (k : Nat) (o : Option Nat), v19 = .int .i64 (k : Int) ∧ k ≤ ns.length ∧ Prn w1.heap.size (linesTxt (ns.take k)) o wr ∧ Step w1.heap.size none o w2 wr) (fun v19 _ => (ns.length - (intOf v19).toNat))
    case atStart => exact HST.out
    case round =>
      obtain ⟨k, o', rfl, hk, hp, hst⟩ := hrel
      by_cases hlt : k < ns.length
      · obtain ⟨b, off, v, rfl, hSb, hxk, hnv⟩ := (NodesIn.kept (HF.out.same hst) (fun _ h => h) ns a1 0 HX.out).get ns a1 0 k hlt
        rw [Nat.zero_add] at hxk
        have hsn := linesTxt_snoc (ns.take k) ns[k]
        rw [← List.take_succ_eq_append_getElem hlt] at hsn
        have hput := put_ok ns[k]
        have hfr := HF.out.step hst
        have HN1 := Lib.hid (hput w1.heap.size _ o' B wr v hp hnv hfr)
        have HSN := Lib.hid hsn
        have HS0 := Lib.hid hst
        obtain ⟨nt, nx, rfl⟩ := hnv.shape
        clear hp hst hput hfr hsn hnv hSb
        go_wp2_with fail
        refine HN1.out.mono ?_
        rintro e2 w3 ⟨rfl, o2, h3, h4⟩
        have HW := Lib.hid (write_made [⟨#[10]⟩] w1.heap.size _ o2 w3 h3 (by simp) (by intro x hx; rw [List.mem_singleton.1 hx]; decide))
        have HS4 := Lib.hid h4
        clear HN1 h3 h4
        go_wp2_with fail
        refine HW.out.mono ?_
        rintro e3 w4 ⟨rfl, o3, h5, h6⟩
        have HRR := Lib.hid (show ∃ (k' : Nat) (o : Option Nat), Value.int .i64 ((k : Int) + 1) = .int .i64 (k' : Int) ∧ k' ≤ ns.length ∧ Prn w1.heap.size (linesTxt (ns.take k')) o w4 ∧ Step w1.heap.size none o w2 w4 from ⟨k + 1, o3, by go_num, by omega, by rw [HSN.out]; exact h5, HS0.out.trans (HS4.out.trans h6)⟩)
        clear HW h5 h6
        go_wp2
        go_roundw
        case rel => exact HRR.out
        case measure => simp [intOf]; omega
      · obtain rfl : k = ns.length := by omega
        rw [List.take_length] at hp
        have HWH := Lib.hid (whole_any w1.heap.size (linesTxt ns) o' wr hp)
        rw [show linesTxt ns = progTxt p from by unfold progTxt; rw [HNS.out], HANS.out] at HWH
        have HB3 := Lib.hid (show Below w.heap.size w wr from ⟨hst.os.trans (HB2.out.os.trans HB1.out.os), hst.tape.trans (HB2.out.tape.trans HB1.out.tape), hst.output.trans (HB2.out.output.trans HB1.out.output), Nat.le_trans HB1.out.size (Nat.le_trans HB2.out.size hst.size), fun k hk => by
          have := HB1.out.size
          rw [hst.block k (by omega) (by omega) (by simp), HB2.out.block k (by omega)]
          exact HB1.out.block k hk⟩)
        clear hp hst
        go_wp2_with fail
        refine HWH.out.mono ?_
        rintro e w5 ⟨rfl, rfl⟩
        clear HWH
        go_wp2
        go_ret
        exact ⟨rfl, HB3.out⟩
  · have HA := Lib.hid (show progAns p = ⟨#[]⟩ by unfold progAns; rw [if_neg (fun h => hno h.1)])
    have HB1 := Lib.hid (below_step HB0.out hb1)
    clear hno hb1 HN
    go_wp2
    go_ret
    exact ⟨by rw [HA.out]; rfl, HB1.out⟩

end Go.Proofs.Ytdcfhmbnbfmnbaa.Pr
