/-
  THE LAWS' OWN HELPERS over lists of graphs.
-/
import Derived.Test.YtgjmefcognoepaaPG1
namespace Go.Proofs.Ytgjmefcognoepaa.Pr
open Go Go.RowKit Go.Maps Go.WideMaps

def wtGraphS (l : List Gr) : Nat := wsum Gr.wt l + l.length
theorem lenGraphS (l : List Gr) : l.length ≤ wtGraphS l := by unfold wtGraphS; omega
def SzRelGraphS (w : World) (l : List Gr) (L : Int) (v1 v5 : Value) (wr : World) : Prop :=
  ∃ k : Nat, Below w.heap.size w wr ∧ v5 = .int .i64 (k : Int) ∧ k ≤ l.length ∧ v1 = .int .i64 (L - (l.length : Int) - (wsum Gr.wt (l.take k) : Int)) ∧ ((wsum Gr.wt (l.take k) : Int) + l.length ≤ L)

set_option maxRecDepth 100000 in
set_option maxHeartbeats 2000000 in
theorem szGraphS_any (a : Option Addr) (cap : Nat) (l : List Gr) (L : Int) (S : Nat → Prop) (w : World) (hrow : RowIn FGr 3 S w a l) (hS : ∀ b, S b → b < w.heap.size) (hn : l.length ≤ 9223372036854775807) (hs : ∀ x ∈ l, x.fits) (h0 : 0 ≤ L) (h1 : L ≤ 1048576) :
    Calls Try.prog 4 #[.slice a l.length cap, .int .i64 L] w fun e w' => (∃ r : Int, e = .returned (.int .i64 r) ∧ ((r < 0 ∧ L < wtGraphS l) ∨ (r = L - wtGraphS l ∧ (wtGraphS l : Int) ≤ L))) ∧ Below w.heap.size w w' := by
  have HR := Lib.hid hrow
  have HS := Lib.hid hs
  have HSS := Lib.hid hS
  clear hrow hs hS
  unfold wtGraphS
  by_cases hb0 : (l.length : Int) ≤ L
  · have hd : decide (L - (l.length : Int) < 0) = false := decide_eq_false (by omega)
    go_enter Try.func4, Try.ntmps4
    go_wp2
    go_loopw [1, 5] (fun v1 v5 wr => SzRelGraphS w l L v1 v5 wr) (fun _ v5 _ => (l.length - (intOf v5).toNat))
    case atStart => exact ⟨0, Below.refl _ _, rfl, Nat.zero_le _, by rw [List.take_zero, wsum]; congr 1; omega, by rw [List.take_zero, wsum]; omega⟩
    case round =>
      obtain ⟨k, hb, rfl, hk, rfl, htk⟩ := hrel
      by_cases hlt : k < l.length
      · obtain ⟨b, off, vs, rfl, hbl, hvl, hcc, hFF⟩ := RowIn.kept FGr_keeps HR.out (Same.below HSS.out hb) k hlt
        have HC := Lib.hid hFF
        obtain ⟨ars, crs, rfl, hh0⟩ := hFF
        have hx0 : wr.cell? ⟨b, off + k * 3, none⟩ = some (.int .i64 l[k].f) := hcc 0 (by simp)
        have hx1 : wr.cell? ⟨b, off + k * 3 + 1, none⟩ = some (.int .i64 l[k].t) := hcc 1 (by simp)
        have hx2 : wr.cell? ⟨b, off + k * 3 + 2, none⟩ = some (.slice ars l[k].rs.length crs) := hcc 2 (by simp)
        have hxs := HS.out l[k] (List.getElem_mem hlt)
        have ht := wsum_take Gr.wt hlt
        have htot := wsum_take_le Gr.wt l (k + 1)
        have HZZ := Lib.hid (szGraph_any l[k] _ (L - (l.length : Int) - (wsum Gr.wt (l.take k) : Int)) S wr HC.out (fun q hq => Nat.lt_of_lt_of_le (HSS.out q hq) hb.size) hxs (by omega) (by omega))
        have Z : ∀ w1, Below wr.heap.size wr w1 → (wsum Gr.wt (l.take k) : Int) + l[k].wt + l.length ≤ L → SzRelGraphS w l L (.int .i64 (L - (l.length : Int) - (wsum Gr.wt (l.take k) : Int) - (l[k].wt : Int))) (.int .i64 ((k : Int) + 1)) w1 := fun w1 hw1 hh =>
          ⟨k + 1, below_step hb hw1, by go_num, by omega, by rw [ht]; congr 1; omega, by rw [ht]; omega⟩
        have HZ := Lib.hid Z
        clear Z hxs HC hh0 hcc hvl hbl
        rw [ht] at htot
        clear ht
        generalize l[k] = x at *
        generalize wsum Gr.wt (l.take k) = y at *
        go_wp2_with fail
        refine HZZ.out.mono ?_
        rintro e w1 ⟨⟨r, rfl, hr⟩, hb1⟩
        rcases hr with ⟨hr, hl⟩ | ⟨rfl, hl⟩
        · have hd2 : decide (r < 0) = true := decide_eq_true hr
          have HB := Lib.hid (below_step hb hb1)
          clear HZ HZZ hb1
          go_wp2
          go_ret
          exact ⟨⟨-1, rfl, .inl (by omega)⟩, HB.out⟩
        · have HRR := Lib.hid (HZ.out w1 hb1 (by omega))
          have hd2 : decide (L - (l.length : Int) - (y : Int) - (x.wt : Int) < 0) = false := decide_eq_false (by omega)
          clear HZ HZZ hb1
          generalize x.wt = z at *
          go_wp2
          go_roundw
          case rel => exact HRR.out
          case measure => simp [intOf]; omega
      · obtain rfl : k = l.length := by omega
        rw [List.take_length] at htk ⊢
        generalize hy : wsum Gr.wt l = y at htk ⊢
        go_wp2
        go_ret
        exact ⟨⟨_, rfl, .inr (by omega)⟩, hb⟩
  · have hd : decide (L - (l.length : Int) < 0) = true := decide_eq_true (by omega)
    go_enter Try.func4, Try.ntmps4
    go_wp2
    go_ret
    exact ⟨⟨-1, rfl, .inl (by omega)⟩, Below.refl _ _⟩

def EqRelGraphS (w : World) (n : Nat) (v : Value) (wr : World) : Prop := ∃ k : Nat, Below w.heap.size w wr ∧ v = .int .i64 (k : Int) ∧ k ≤ n

set_option maxRecDepth 100000 in
set_option maxHeartbeats 2000000 in
theorem eqGraphS_any (l : List Gr) (a1 a2 : Option Addr) (c1 c2 : Nat) (S1 S2 : Nat → Prop) (w : World) (hu : RowIn FGr 3 S1 w a1 l) (hv : RowIn FGr 3 S2 w a2 l) (hS1 : ∀ b, S1 b → b < w.heap.size) (hS2 : ∀ b, S2 b → b < w.heap.size) (hn : wtGraphS l ≤ 2000000) :
    Calls Try.prog 8 #[.slice a1 l.length c1, .slice a2 l.length c2] w fun e w' => e = .returned (.bool true) ∧ Below w.heap.size w w' := by
  have HU := Lib.hid hu
  have HV := Lib.hid hv
  have HS1 := Lib.hid hS1
  have HS2 := Lib.hid hS2
  have hln := lenGraphS l
  have HW := Lib.hid hn
  have hln2 : l.length ≤ 2000000 := by omega
  clear hu hv hS1 hS2 hln hn
  have hne : ((l.length : Int) != (l.length : Int)) = false := by simp
  go_enter Try.func8, Try.ntmps8
  go_wp2
  go_loopw [5] (fun v wr => EqRelGraphS w l.length v wr) (fun v _ => (l.length - (intOf v).toNat))
  case atStart => exact ⟨0, Below.refl _ _, rfl, Nat.zero_le _⟩
  case round =>
    obtain ⟨k, hb, rfl, hk⟩ := hrel
    by_cases hlt : k < l.length
    · obtain ⟨b1, o1, us, rfl, hl1, hul, hcu, hFu⟩ := RowIn.kept FGr_keeps HU.out (Same.below HS1.out hb) k hlt
      obtain ⟨b2, o2, vs, rfl, hl2, hvl, hcv, hFv⟩ := RowIn.kept FGr_keeps HV.out (Same.below HS2.out hb) k hlt
      have hxw : l[k].wt ≤ 2000000 := by
        have h1 := HW.out
        have h2 := wsum_mem Gr.wt (List.getElem_mem hlt)
        unfold wtGraphS at h1
        omega
      have hg1 : b1 < wr.heap.size := Nat.lt_of_lt_of_le (HS1.out _ hl1) hb.size
      have hg2 : b2 < wr.heap.size := Nat.lt_of_lt_of_le (HS2.out _ hl2) hb.size
      have HEQ := Lib.hid (fun (W : World) (hW : Below wr.heap.size wr W) => eqGraph_any l[k] us vs S1 S2 W (FGr_keeps.1 _ _ _ _ _ hFu (Same.below (fun q hq => Nat.lt_of_lt_of_le (HS1.out q hq) hb.size) hW)) (FGr_keeps.1 _ _ _ _ _ hFv (Same.below (fun q hq => Nat.lt_of_lt_of_le (HS2.out q hq) hb.size) hW)) (fun q hq => Nat.lt_of_lt_of_le (Nat.lt_of_lt_of_le (HS1.out q hq) hb.size) hW.size) (fun q hq => Nat.lt_of_lt_of_le (Nat.lt_of_lt_of_le (HS2.out q hq) hb.size) hW.size) hxw)
      obtain ⟨arsu, crsu, rfl, hh0u⟩ := hFu
      obtain ⟨arsv, crsv, rfl, hh0v⟩ := hFv
      have x0 : wr.cell? ⟨b1, o1 + k * 3, none⟩ = some (.int .i64 l[k].f) := hcu 0 (by simp)
      have y0 : wr.cell? ⟨b2, o2 + k * 3, none⟩ = some (.int .i64 l[k].f) := hcv 0 (by simp)
      have x1 : wr.cell? ⟨b1, o1 + k * 3 + 1, none⟩ = some (.int .i64 l[k].t) := hcu 1 (by simp)
      have y1 : wr.cell? ⟨b2, o2 + k * 3 + 1, none⟩ = some (.int .i64 l[k].t) := hcv 1 (by simp)
      have x2 : wr.cell? ⟨b1, o1 + k * 3 + 2, none⟩ = some (.slice arsu l[k].rs.length crsu) := hcu 2 (by simp)
      have y2 : wr.cell? ⟨b2, o2 + k * 3 + 2, none⟩ = some (.slice arsv l[k].rs.length crsv) := hcv 2 (by simp)
      have HB := Lib.hid hb
      have hB0 : Below wr.heap.size wr wr := Below.refl _ _
      clear hb hxw hcu hcv hul hvl hh0u hh0v HU HV hl1 hl2
      generalize l[k] = x at *
      go_wp2
      go_region_held3 (fun w' => w'.cell? ⟨b1, o1 + k * 3, none⟩ = some (.int .i64 x.f) ∧ w'.cell? ⟨b2, o2 + k * 3, none⟩ = some (.int .i64 x.f) ∧ w'.cell? ⟨b1, o1 + k * 3 + 1, none⟩ = some (.int .i64 x.t) ∧ w'.cell? ⟨b2, o2 + k * 3 + 1, none⟩ = some (.int .i64 x.t) ∧ w'.cell? ⟨b1, o1 + k * 3 + 2, none⟩ = some (.slice arsu x.rs.length crsu) ∧ w'.cell? ⟨b2, o2 + k * 3 + 2, none⟩ = some (.slice arsv x.rs.length crsv) ∧ Below wr.heap.size wr w')
        (refine ⟨?_, ?_, ?_, ?_, ?_, ?_, ?_⟩ <;> (first | assumption | (simp [*]; done) | (apply Below.drew; assumption)))
        (first
          | (go_at_call 19
             refine (HEQ.out _ (by first | assumption | (apply Below.drew; assumption))).mono ?_
             rintro e w3 ⟨rfl, hb3⟩
             have hs1 : Below wr.heap.size wr w3 := hB0.drew.trans hb3
             have z0 : w3.cell? ⟨b1, o1 + k * 3, none⟩ = some (.int .i64 x.f) := (hb3.cell hg1).trans x0
             have t0 : w3.cell? ⟨b2, o2 + k * 3, none⟩ = some (.int .i64 x.f) := (hb3.cell hg2).trans y0
             have z1 : w3.cell? ⟨b1, o1 + k * 3 + 1, none⟩ = some (.int .i64 x.t) := (hb3.cell hg1).trans x1
             have t1 : w3.cell? ⟨b2, o2 + k * 3 + 1, none⟩ = some (.int .i64 x.t) := (hb3.cell hg2).trans y1
             have z2 : w3.cell? ⟨b1, o1 + k * 3 + 2, none⟩ = some (.slice arsu x.rs.length crsu) := (hb3.cell hg1).trans x2
             have t2 : w3.cell? ⟨b2, o2 + k * 3 + 2, none⟩ = some (.slice arsv x.rs.length crsv) := (hb3.cell hg2).trans y2
             clear hb3))
      go_wp2
      go_roundw
      case rel => exact ⟨k + 1, HB.out.trans (Below.mono (by assumption) HB.out.size), by go_num, by omega⟩
      case measure => simp [intOf]; omega
    · obtain rfl : k = l.length := by omega
      have hlt2 : decide ((l.length : Int) < (l.length : Int)) = false := by simp
      go_wp2
      go_ret
      exact ⟨rfl, hb⟩

def ToRelGraphS (w : World) (l : List Gr) (v4 : Value) (wr : World) : Prop :=
  ∃ (k : Nat), v4 = .int .i64 (k : Int) ∧ k ≤ l.length ∧ RowTo FGr 3 38 w.heap.size w.heap.size wr l k ∧ Below w.heap.size w wr

set_option maxRecDepth 100000 in
set_option maxHeartbeats 2000000 in
theorem toGraphS_any (a : Option Addr) (cap : Nat) (l : List Gr) (S : Nat → Prop) (w : World) (hrow : RowIn FGr 3 S w a l) (hS : ∀ b, S b → b < w.heap.size) (hn : wtGraphS l ≤ 1048576) :
    Calls Try.prog 6 #[.slice a l.length cap] w fun e w' => ∃ g : Nat, e = .returned (.slice (some ⟨g, 0, none⟩) l.length l.length) ∧ RowIn FGr 3 (Seg w.heap.size w'.heap.size) w' (some ⟨g, 0, none⟩) l ∧ Below w.heap.size w w' := by
  have HR := Lib.hid hrow
  have HS := Lib.hid hS
  have HW := Lib.hid hn
  have hln := lenGraphS l
  have hln2 : l.length ≤ 1048576 := by omega
  clear hrow hS hn hln
  obtain ⟨i0, hi0, hz0, hz1, hz2⟩ := info_parts infoGraph
  have hmk : (Instr.makeSlice 24 (.int .i64 (l.length : Int)) (.int .i64 (l.length : Int))).run Try.prog w = .ok (.slice (some ⟨w.heap.size, 0, none⟩) l.length l.length) (w.alloc (.cells (madeCells #[.int .i64 0, .int .i64 0, .slice none 0 0] (l.length * 3)) 38)) := by
    rw [run_make w 24 38 i0 _ Try.underlying24 hi0 hz0 .i64 .i64 _ _ (by omega) (by omega) (by rw [hz2]; omega) (by omega), hz1, Int.toNat_natCast]
    rfl
  have hst : ToRelGraphS w l (.int .i64 0) (w.alloc (.cells (madeCells #[.int .i64 0, .int .i64 0, .slice none 0 0] (l.length * 3)) 38)) :=
    ⟨0, rfl, Nat.zero_le _, ⟨⟨_, heap_alloc_new w _, size_madeCells _ _⟩, Nat.le_refl _, fun i h hi => by omega⟩, (Below.refl w.heap.size w).alloc (Nat.le_refl _) _⟩
  have HST := Lib.hid hst
  generalize w.alloc (.cells (madeCells #[.int .i64 0, .int .i64 0, .slice none 0 0] (l.length * 3)) 38) = W0 at *
  clear hi0 hz0 hz1 hz2 hst
  go_enter Try.func6, Try.ntmps6
  go_wp2
  clear hmk
  go_loopw [4] (fun v4 wr => ToRelGraphS w l v4 wr) (fun v4 _ => (l.length - (intOf v4).toNat))
  case atStart => exact HST.out
  case round =>
    obtain ⟨k, rfl, hk, hto, hb⟩ := hrel
    by_cases hlt : k < l.length
    · obtain ⟨b, off, vs, rfl, hbl, hvl, hcc, hFF⟩ := RowIn.kept FGr_keeps HR.out (Same.below HS.out hb) k hlt
      have HC := Lib.hid hFF
      obtain ⟨ars, crs, rfl, hh0⟩ := hFF
      have hx0 : wr.cell? ⟨b, off + k * 3, none⟩ = some (.int .i64 l[k].f) := hcc 0 (by simp)
      have hx1 : wr.cell? ⟨b, off + k * 3 + 1, none⟩ = some (.int .i64 l[k].t) := hcc 1 (by simp)
      have hx2 : wr.cell? ⟨b, off + k * 3 + 2, none⟩ = some (.slice ars l[k].rs.length crs) := hcc 2 (by simp)
      have hxw : l[k].wt ≤ 1048576 := by
        have h1 := HW.out
        have h2 := wsum_mem Gr.wt (List.getElem_mem hlt)
        unfold wtGraphS at h1
        omega
      have HZ := Lib.hid (toGraph_any l[k] _ S wr HC.out (fun q hq => Nat.lt_of_lt_of_le (HS.out q hq) hb.size) hxw)
      have HSTEP := Lib.hid (fun (w1 : World) (hb1 : Below wr.heap.size wr w1) (us : List Value) (hu : us.length = 3) (hF : FGr (Seg wr.heap.size w1.heap.size) w1 us l[k]) => hto.step FGr_keeps hlt hb1 hu hF)
      have HROOM := Lib.hid (fun (w1 : World) (hb1 : Below wr.heap.size wr w1) (j : Nat) (hj : j < 3) => hto.room hb1 hlt hj)
      have HB := Lib.hid hb
      clear hb hto hcc hvl hbl HC hxw hh0
      generalize l[k] = x at *
      go_wp2_with fail
      refine HZ.out.mono ?_
      rintro e w1 ⟨us, rfl, hFu, hb1⟩
      have hul : us.length = 3 := by
        obtain ⟨ars, crs, rfl, gg0⟩ := hFu
        rfl
      obtain ⟨hr1, hr2⟩ := HSTEP.out w1 hb1 us hul hFu
      have HRR := Lib.hid ((⟨k + 1, by go_num, by omega, hr1, (HB.out.mono (Nat.le_refl _)).trans hr2⟩ : ToRelGraphS w l (.int .i64 ((k : Int) + 1)) (setAll w1 w.heap.size (k * 3) us)))
      obtain ⟨⟨u0, hu0⟩, hf0⟩ := HROOM.out w1 hb1 0 (by omega)
      obtain ⟨⟨u1, hu1⟩, hf1⟩ := HROOM.out w1 hb1 1 (by omega)
      obtain ⟨⟨u2, hu2⟩, hf2⟩ := HROOM.out w1 hb1 2 (by omega)
      clear HZ HSTEP HROOM hr1 hr2 hb1
      obtain ⟨ars, crs, rfl, gg0⟩ := hFu
      clear gg0
      simp only [Nat.add_zero] at hu0 hf0
      go_wp2
      go_roundw
      case rel => exact HRR.out
      case measure => simp [intOf]; omega
    · obtain rfl : k = l.length := by omega
      have HO := Lib.hid (hto.done FGr_keeps)
      clear hto
      go_wp2
      go_ret
      exact ⟨_, rfl, HO.out, hb⟩


end Go.Proofs.Ytgjmefcognoepaa.Pr
