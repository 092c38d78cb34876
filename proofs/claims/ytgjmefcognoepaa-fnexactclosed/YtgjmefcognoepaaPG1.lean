/-
  THE LAWS' OWN HELPERS over arcs and graphs.
-/
import Derived.Test.YtgjmefcognoepaaPTe
namespace Go.Proofs.Ytgjmefcognoepaa.Pr
open Go Go.RowKit Go.Maps Go.WideMaps

structure Ar where
  a : Int
  b : Int
  s : Bool
def FAr : Flat Ar := fun _S _w vs x => vs = [.int .i64 x.a, .int .i64 x.b, .bool x.s]
theorem FAr_keeps : Keeps FAr := by
  refine ⟨?_, ?_⟩
  · rintro S w w' vs x rfl hs
    rfl
  · rintro S T w vs x rfl hs
    rfl
def Ar.wt (_x : Ar) : Nat := 0
theorem wsumAr : ∀ l : List Ar, wsum Ar.wt l = 0
  | [] => rfl
  | x :: r => by rw [wsum, wsumAr r]; rfl

set_option maxRecDepth 100000 in
set_option maxHeartbeats 2000000 in
theorem eqArc_any (x : Ar) (us vs : List Value) (S1 S2 : Nat → Prop) (w : World) (hF1 : FAr S1 w us x) (hF2 : FAr S2 w vs x) :
    Calls Try.prog 35 #[.agg us.toArray, .agg vs.toArray] w fun e w' => e = .returned (.bool true) ∧ Below w.heap.size w w' := by
  obtain rfl := hF1
  obtain rfl := hF2
  have e0 : (x.a != x.a) = false := by simp
  have e1 : (x.b != x.b) = false := by simp
  have e2 : (x.s != x.s) = false := by simp
  have hb0 := ((Below.refl w.heap.size w).alloc (Nat.le_refl _) (Obj.cells #[.int .i64 x.a, .int .i64 x.b, .bool x.s] 59)).alloc (by simp) (Obj.cells #[.int .i64 x.a, .int .i64 x.b, .bool x.s] 59)
  have HB := Lib.hid hb0
  clear hb0
  generalize x.a = xa at *
  generalize x.b = xb at *
  generalize x.s = xs at *
  go_enter Try.func35, Try.ntmps35
  go_wp2
  go_ret
  exact ⟨rfl, HB.out⟩

theorem infoArc : (Try.prog.info? 59).map (fun i => (i.zero, i.size, i.bytes)) = some (some (.agg #[.int .i64 0, .int .i64 0, .bool false]), 3, 24) := by kernel_rfl
theorem infoSArc : (Try.prog.info? 59).map (·.size) = some 3 := by kernel_rfl
set_option maxRecDepth 100000 in
set_option maxHeartbeats 2000000 in
theorem toArc_any (x : Ar) (vs : List Value) (S : Nat → Prop) (w : World) (hF : FAr S w vs x) :
    Calls Try.prog 32 #[.agg vs.toArray] w fun e w' => ∃ us : List Value, e = .returned (.agg us.toArray) ∧ FAr (Seg w.heap.size w'.heap.size) w' us x ∧ Below w.heap.size w w' := by
  obtain rfl := hF
  have hb := alloc3_below w (Obj.cells #[.int .i64 x.a, .int .i64 x.b, .bool x.s] 72) (Obj.cells #[.int .i64 x.a, .int .i64 x.b, .bool x.s] 59) (Obj.cells #[.int .i64 x.a, .int .i64 x.b, .bool x.s] 59)
  have k1 := alloc3_1 w (Obj.cells #[.int .i64 x.a, .int .i64 x.b, .bool x.s] 72) (Obj.cells #[.int .i64 x.a, .int .i64 x.b, .bool x.s] 59) (Obj.cells #[.int .i64 x.a, .int .i64 x.b, .bool x.s] 59)
  have HK1 := Lib.hid k1
  have HB := Lib.hid hb
  clear k1 hb
  go_enter Try.func32, Try.ntmps32
  go_wp2
  refine bodyPost_ret (results_cell_row rfl _ _ (w.heap.size + 1) 59 #[.int .i64 x.a, .int .i64 x.b, .bool x.s] (0, 0) _ (by rfl) HK1.out Try.underlying59 rfl infoSArc) rfl ?_
  exact ⟨[.int .i64 x.a, .int .i64 x.b, .bool x.s], rfl, rfl, HB.out⟩

def wtArcS (l : List Ar) : Nat := l.length
theorem lenArcS (l : List Ar) : l.length ≤ wtArcS l := Nat.le_refl _
set_option maxRecDepth 100000 in
set_option maxHeartbeats 2000000 in
theorem szArcS_any (a : Option Addr) (cap : Nat) (xs : List Ar) (L : Int) (S : Nat → Prop) (w : World) (_hrow : RowIn FAr 3 S w a xs) (_hS : ∀ b, S b → b < w.heap.size) (hn : xs.length ≤ 9223372036854775807) (h0 : 0 ≤ L) (h1 : L ≤ 1048576) :
    Calls Try.prog 22 #[.slice a xs.length cap, .int .i64 L] w fun e w' => (∃ r : Int, e = .returned (.int .i64 r) ∧ ((r < 0 ∧ L < wtArcS xs) ∨ (r = L - wtArcS xs ∧ (wtArcS xs : Int) ≤ L))) ∧ Below w.heap.size w w' := by
  unfold wtArcS
  generalize xs.length = n at *
  by_cases h : (n : Int) ≤ L
  · have hd : decide (L - (n : Int) < 0) = false := decide_eq_false (by omega)
    go_enter Try.func22, Try.ntmps22
    go_wp2
    go_ret
    exact ⟨⟨_, rfl, .inr ⟨rfl, h⟩⟩, Below.refl _ _⟩
  · have hd : decide (L - (n : Int) < 0) = true := decide_eq_true (by omega)
    go_enter Try.func22, Try.ntmps22
    go_wp2
    go_ret
    exact ⟨⟨-1, rfl, .inl (by omega)⟩, Below.refl _ _⟩

def EqRelArcS (w : World) (n : Nat) (v : Value) (wr : World) : Prop := ∃ k : Nat, Below w.heap.size w wr ∧ v = .int .i64 (k : Int) ∧ k ≤ n

set_option maxRecDepth 100000 in
set_option maxHeartbeats 2000000 in
theorem eqArcS_any (l : List Ar) (a1 a2 : Option Addr) (c1 c2 : Nat) (S1 S2 : Nat → Prop) (w : World) (hu : RowIn FAr 3 S1 w a1 l) (hv : RowIn FAr 3 S2 w a2 l) (hS1 : ∀ b, S1 b → b < w.heap.size) (hS2 : ∀ b, S2 b → b < w.heap.size) (hn : wtArcS l ≤ 2000000) :
    Calls Try.prog 31 #[.slice a1 l.length c1, .slice a2 l.length c2] w fun e w' => e = .returned (.bool true) ∧ Below w.heap.size w w' := by
  have HU := Lib.hid hu
  have HV := Lib.hid hv
  have HS1 := Lib.hid hS1
  have HS2 := Lib.hid hS2
  have hln := lenArcS l
  have HW := Lib.hid hn
  have hln2 : l.length ≤ 2000000 := by omega
  clear hu hv hS1 hS2 hln hn
  have hne : ((l.length : Int) != (l.length : Int)) = false := by simp
  go_enter Try.func31, Try.ntmps31
  go_wp2
  go_loopw [5] (fun v wr => EqRelArcS w l.length v wr) (fun v _ => (l.length - (intOf v).toNat))
  case atStart => exact ⟨0, Below.refl _ _, rfl, Nat.zero_le _⟩
  case round =>
    obtain ⟨k, hb, rfl, hk⟩ := hrel
    by_cases hlt : k < l.length
    · obtain ⟨b1, o1, us, rfl, hl1, hul, hcu, hFu⟩ := RowIn.kept FAr_keeps HU.out (Same.below HS1.out hb) k hlt
      obtain ⟨b2, o2, vs, rfl, hl2, hvl, hcv, hFv⟩ := RowIn.kept FAr_keeps HV.out (Same.below HS2.out hb) k hlt
      have hg1 : b1 < wr.heap.size := Nat.lt_of_lt_of_le (HS1.out _ hl1) hb.size
      have hg2 : b2 < wr.heap.size := Nat.lt_of_lt_of_le (HS2.out _ hl2) hb.size
      have HEQ := Lib.hid (fun (W : World) (hW : Below wr.heap.size wr W) => eqArc_any l[k] us vs S1 S2 W (FAr_keeps.1 _ _ _ _ _ hFu (Same.below (fun q hq => Nat.lt_of_lt_of_le (HS1.out q hq) hb.size) hW)) (FAr_keeps.1 _ _ _ _ _ hFv (Same.below (fun q hq => Nat.lt_of_lt_of_le (HS2.out q hq) hb.size) hW)))
      obtain rfl := hFu
      obtain rfl := hFv
      have x0 : wr.cell? ⟨b1, o1 + k * 3, none⟩ = some (.int .i64 l[k].a) := hcu 0 (by simp)
      have y0 : wr.cell? ⟨b2, o2 + k * 3, none⟩ = some (.int .i64 l[k].a) := hcv 0 (by simp)
      have x1 : wr.cell? ⟨b1, o1 + k * 3 + 1, none⟩ = some (.int .i64 l[k].b) := hcu 1 (by simp)
      have y1 : wr.cell? ⟨b2, o2 + k * 3 + 1, none⟩ = some (.int .i64 l[k].b) := hcv 1 (by simp)
      have x2 : wr.cell? ⟨b1, o1 + k * 3 + 2, none⟩ = some (.bool l[k].s) := hcu 2 (by simp)
      have y2 : wr.cell? ⟨b2, o2 + k * 3 + 2, none⟩ = some (.bool l[k].s) := hcv 2 (by simp)
      have HB := Lib.hid hb
      have hB0 : Below wr.heap.size wr wr := Below.refl _ _
      clear hb hcu hcv hul hvl  HU HV hl1 hl2
      generalize l[k] = x at *
      go_wp2
      go_region_held3 (fun w' => w'.cell? ⟨b1, o1 + k * 3, none⟩ = some (.int .i64 x.a) ∧ w'.cell? ⟨b2, o2 + k * 3, none⟩ = some (.int .i64 x.a) ∧ w'.cell? ⟨b1, o1 + k * 3 + 1, none⟩ = some (.int .i64 x.b) ∧ w'.cell? ⟨b2, o2 + k * 3 + 1, none⟩ = some (.int .i64 x.b) ∧ w'.cell? ⟨b1, o1 + k * 3 + 2, none⟩ = some (.bool x.s) ∧ w'.cell? ⟨b2, o2 + k * 3 + 2, none⟩ = some (.bool x.s) ∧ Below wr.heap.size wr w')
        (refine ⟨?_, ?_, ?_, ?_, ?_, ?_, ?_⟩ <;> (first | assumption | (simp [*]; done) | (apply Below.drew; assumption)))
        (first
          | (go_at_call 35
             refine (HEQ.out _ (by first | assumption | (apply Below.drew; assumption))).mono ?_
             rintro e w3 ⟨rfl, hb3⟩
             have hs1 : Below wr.heap.size wr w3 := hB0.drew.trans hb3
             have z0 : w3.cell? ⟨b1, o1 + k * 3, none⟩ = some (.int .i64 x.a) := (hb3.cell hg1).trans x0
             have t0 : w3.cell? ⟨b2, o2 + k * 3, none⟩ = some (.int .i64 x.a) := (hb3.cell hg2).trans y0
             have z1 : w3.cell? ⟨b1, o1 + k * 3 + 1, none⟩ = some (.int .i64 x.b) := (hb3.cell hg1).trans x1
             have t1 : w3.cell? ⟨b2, o2 + k * 3 + 1, none⟩ = some (.int .i64 x.b) := (hb3.cell hg2).trans y1
             have z2 : w3.cell? ⟨b1, o1 + k * 3 + 2, none⟩ = some (.bool x.s) := (hb3.cell hg1).trans x2
             have t2 : w3.cell? ⟨b2, o2 + k * 3 + 2, none⟩ = some (.bool x.s) := (hb3.cell hg2).trans y2
             clear hb3))
      go_wp2
      go_roundw
      case rel => exact ⟨k + 1, HB.out.trans (Below.mono (by assumption) HB.out.size), by go_num, by omega⟩
      case measure => simp [intOf]; omega
    · obtain rfl : k = l.length := by omega
      have hlt2 : decide ((l.length : Int) < (l.length : Int)) = false := by simp
      go_wp2
      go_ret
      exact ⟨rfl, hb⟩

def ToRelArcS (w : World) (l : List Ar) (v4 : Value) (wr : World) : Prop :=
  ∃ (k : Nat), v4 = .int .i64 (k : Int) ∧ k ≤ l.length ∧ RowTo FAr 3 59 w.heap.size w.heap.size wr l k ∧ Below w.heap.size w wr

set_option maxRecDepth 100000 in
set_option maxHeartbeats 2000000 in
theorem toArcS_any (a : Option Addr) (cap : Nat) (l : List Ar) (S : Nat → Prop) (w : World) (hrow : RowIn FAr 3 S w a l) (hS : ∀ b, S b → b < w.heap.size) (hn : wtArcS l ≤ 1048576) :
    Calls Try.prog 25 #[.slice a l.length cap] w fun e w' => ∃ g : Nat, e = .returned (.slice (some ⟨g, 0, none⟩) l.length l.length) ∧ RowIn FAr 3 (Seg w.heap.size w'.heap.size) w' (some ⟨g, 0, none⟩) l ∧ Below w.heap.size w w' := by
  have HR := Lib.hid hrow
  have HS := Lib.hid hS
  have HW := Lib.hid hn
  have hln := lenArcS l
  have hln2 : l.length ≤ 1048576 := by omega
  clear hrow hS hn hln
  obtain ⟨i0, hi0, hz0, hz1, hz2⟩ := info_parts infoArc
  have hmk : (Instr.makeSlice 36 (.int .i64 (l.length : Int)) (.int .i64 (l.length : Int))).run Try.prog w = .ok (.slice (some ⟨w.heap.size, 0, none⟩) l.length l.length) (w.alloc (.cells (madeCells #[.int .i64 0, .int .i64 0, .bool false] (l.length * 3)) 59)) := by
    rw [run_make w 36 59 i0 _ Try.underlying36 hi0 hz0 .i64 .i64 _ _ (by omega) (by omega) (by rw [hz2]; omega) (by omega), hz1, Int.toNat_natCast]
    rfl
  have hst : ToRelArcS w l (.int .i64 0) (w.alloc (.cells (madeCells #[.int .i64 0, .int .i64 0, .bool false] (l.length * 3)) 59)) :=
    ⟨0, rfl, Nat.zero_le _, ⟨⟨_, heap_alloc_new w _, size_madeCells _ _⟩, Nat.le_refl _, fun i h hi => by omega⟩, (Below.refl w.heap.size w).alloc (Nat.le_refl _) _⟩
  have HST := Lib.hid hst
  generalize w.alloc (.cells (madeCells #[.int .i64 0, .int .i64 0, .bool false] (l.length * 3)) 59) = W0 at *
  clear hi0 hz0 hz1 hz2 hst
  go_enter Try.func25, Try.ntmps25
  go_wp2
  clear hmk
  go_loopw [4] (fun v4 wr => ToRelArcS w l v4 wr) (fun v4 _ => (l.length - (intOf v4).toNat))
  case atStart => exact HST.out
  case round =>
    obtain ⟨k, rfl, hk, hto, hb⟩ := hrel
    by_cases hlt : k < l.length
    · obtain ⟨b, off, vs, rfl, hbl, hvl, hcc, hFF⟩ := RowIn.kept FAr_keeps HR.out (Same.below HS.out hb) k hlt
      have HC := Lib.hid hFF
      obtain rfl := hFF
      have hx0 : wr.cell? ⟨b, off + k * 3, none⟩ = some (.int .i64 l[k].a) := hcc 0 (by simp)
      have hx1 : wr.cell? ⟨b, off + k * 3 + 1, none⟩ = some (.int .i64 l[k].b) := hcc 1 (by simp)
      have hx2 : wr.cell? ⟨b, off + k * 3 + 2, none⟩ = some (.bool l[k].s) := hcc 2 (by simp)
      have HZ := Lib.hid (toArc_any l[k] _ S wr HC.out)
      have HSTEP := Lib.hid (fun (w1 : World) (hb1 : Below wr.heap.size wr w1) (us : List Value) (hu : us.length = 3) (hF : FAr (Seg wr.heap.size w1.heap.size) w1 us l[k]) => hto.step FAr_keeps hlt hb1 hu hF)
      have HROOM := Lib.hid (fun (w1 : World) (hb1 : Below wr.heap.size wr w1) (j : Nat) (hj : j < 3) => hto.room hb1 hlt hj)
      have HB := Lib.hid hb
      clear hb hto hcc hvl hbl HC 
      generalize l[k] = x at *
      go_wp2_with fail
      refine HZ.out.mono ?_
      rintro e w1 ⟨us, rfl, hFu, hb1⟩
      have hul : us.length = 3 := by
        obtain rfl := hFu
        rfl
      obtain ⟨hr1, hr2⟩ := HSTEP.out w1 hb1 us hul hFu
      have HRR := Lib.hid ((⟨k + 1, by go_num, by omega, hr1, (HB.out.mono (Nat.le_refl _)).trans hr2⟩ : ToRelArcS w l (.int .i64 ((k : Int) + 1)) (setAll w1 w.heap.size (k * 3) us)))
      obtain ⟨⟨u0, hu0⟩, hf0⟩ := HROOM.out w1 hb1 0 (by omega)
      obtain ⟨⟨u1, hu1⟩, hf1⟩ := HROOM.out w1 hb1 1 (by omega)
      obtain ⟨⟨u2, hu2⟩, hf2⟩ := HROOM.out w1 hb1 2 (by omega)
      clear HZ HSTEP HROOM hr1 hr2 hb1
      obtain rfl := hFu
      simp only [Nat.add_zero] at hu0 hf0
      go_wp2
      go_roundw
      case rel => exact HRR.out
      case measure => simp [intOf]; omega
    · obtain rfl : k = l.length := by omega
      have HO := Lib.hid (hto.done FAr_keeps)
      clear hto
      go_wp2
      go_ret
      exact ⟨_, rfl, HO.out, hb⟩

structure Gr where
  f : Int
  t : Int
  rs : List Ar
def FGr : Flat Gr := fun S w vs x => ∃ (ars : Option Addr) (crs : Nat), vs = [.int .i64 x.f, .int .i64 x.t, .slice ars x.rs.length crs] ∧ RowIn FAr 3 S w ars x.rs
theorem FGr_keeps : Keeps FGr := by
  refine ⟨?_, ?_⟩
  · rintro S w w' vs x ⟨ars, crs, rfl, h0⟩ hs
    exact ⟨_, _, rfl, RowIn.kept FAr_keeps h0 hs⟩
  · rintro S T w vs x ⟨ars, crs, rfl, h0⟩ hs
    exact ⟨_, _, rfl, RowIn.mono FAr_keeps h0 hs⟩
def Gr.wt (x : Gr) : Nat := wtArcS x.rs
def Gr.fits (x : Gr) : Prop := x.rs.length ≤ 9223372036854775807

set_option maxRecDepth 100000 in
set_option maxHeartbeats 2000000 in
theorem szGraph_any (x : Gr) (vs : List Value) (L : Int) (S : Nat → Prop) (w : World) (hF : FGr S w vs x) (hS : ∀ b, S b → b < w.heap.size) (hf : x.fits) (h0 : 0 ≤ L) (h1 : L ≤ 1048576) :
    Calls Try.prog 11 #[.agg vs.toArray, .int .i64 L] w fun e w' => (∃ r : Int, e = .returned (.int .i64 r) ∧ ((r < 0 ∧ L < x.wt) ∨ (r = L - x.wt ∧ (x.wt : Int) ≤ L))) ∧ Below w.heap.size w w' := by
  obtain ⟨ars, crs, rfl, rr0⟩ := hF
  unfold Gr.fits at hf
  unfold Gr.wt
  have f0 := hf
  have hb0 := (Below.refl w.heap.size w).alloc (Nat.le_refl _) (Obj.cells #[.int .i64 x.f, .int .i64 x.t, .slice ars x.rs.length crs] 34)
  have HB := Lib.hid hb0
  clear hb0
  have KP := Lib.hid (heap_alloc_new w (Obj.cells #[.int .i64 x.f, .int .i64 x.t, .slice ars x.rs.length crs] 34))
  have HZ2 := Lib.hid (fun (L' : Int) (W : World) (hW : Below w.heap.size w W) (h0 : 0 ≤ L') (h1 : L' ≤ 1048576) => szArcS_any ars crs x.rs L' S W (RowIn.kept FAr_keeps rr0 (Same.below hS hW)) (fun b hb => Nat.lt_of_lt_of_le (hS b hb) hW.size) f0 h0 h1)
  clear rr0 hS
  generalize wtArcS x.rs = q2 at *
  go_enter Try.func11, Try.ntmps11
  go_wp2_with fail
  refine (HZ2.out (L) _ HB.out (by omega) (by omega)).mono ?_
  rintro e w2 ⟨⟨r, rfl, hr⟩, hb1⟩
  replace HB := Lib.hid (below_step HB.out hb1)
  replace KP := Lib.hid ((hb1.block _ (lt_of_block KP.out)).trans KP.out)
  clear hb1 HZ2
  rcases hr with ⟨hr, hl⟩ | ⟨rfl, hl⟩
  · have hd2 : decide (r < 0) = true := decide_eq_true hr
    go_wp2
    go_ret
    exact ⟨⟨-1, rfl, .inl (by omega)⟩, HB.out⟩
  · have hd2 : decide (L - (q2 : Int) < 0) = false := decide_eq_false (by omega)
    go_wp2
    go_ret
    exact ⟨⟨_, rfl, .inr (by omega)⟩, HB.out⟩

set_option maxRecDepth 100000 in
set_option maxHeartbeats 2000000 in
theorem eqGraph_any (x : Gr) (us vs : List Value) (S1 S2 : Nat → Prop) (w : World) (hF1 : FGr S1 w us x) (hF2 : FGr S2 w vs x) (hS1 : ∀ b, S1 b → b < w.heap.size) (hS2 : ∀ b, S2 b → b < w.heap.size) (hn : x.wt ≤ 2000000) :
    Calls Try.prog 19 #[.agg us.toArray, .agg vs.toArray] w fun e w' => e = .returned (.bool true) ∧ Below w.heap.size w w' := by
  obtain ⟨arsu, crsu, rfl, rr0u⟩ := hF1
  obtain ⟨arsv, crsv, rfl, rr0v⟩ := hF2
  unfold Gr.wt at hn
  have e0 : (x.f != x.f) = false := by simp
  have e1 : (x.t != x.t) = false := by simp
  have HZ2 := Lib.hid (fun (W : World) (hW : Below w.heap.size w W) => eqArcS_any x.rs arsu arsv crsu crsv S1 S2 W (RowIn.kept FAr_keeps rr0u (Same.below hS1 hW)) (RowIn.kept FAr_keeps rr0v (Same.below hS2 hW)) (fun b hb => Nat.lt_of_lt_of_le (hS1 b hb) hW.size) (fun b hb => Nat.lt_of_lt_of_le (hS2 b hb) hW.size) (by omega))
  clear rr0u rr0v hS1 hS2
  have hb0 := ((Below.refl w.heap.size w).alloc (Nat.le_refl _) (Obj.cells #[.int .i64 x.f, .int .i64 x.t, .slice arsu x.rs.length crsu] 38)).alloc (by simp) (Obj.cells #[.int .i64 x.f, .int .i64 x.t, .slice arsv x.rs.length crsv] 38)
  have HB := Lib.hid hb0
  clear hb0
  have KP := Lib.hid ((heap_alloc_old _ (Obj.cells #[.int .i64 x.f, .int .i64 x.t, .slice arsv x.rs.length crsv] 38) (by simp)).trans (heap_alloc_new w (Obj.cells #[.int .i64 x.f, .int .i64 x.t, .slice arsu x.rs.length crsu] 38)))
  have KQ := Lib.hid (heap_alloc2_new w (Obj.cells #[.int .i64 x.f, .int .i64 x.t, .slice arsu x.rs.length crsu] 38) (Obj.cells #[.int .i64 x.f, .int .i64 x.t, .slice arsv x.rs.length crsv] 38))
  go_enter Try.func19, Try.ntmps19
  go_wp2_with fail
  refine (HZ2.out _ HB.out).mono ?_
  rintro e w2 ⟨rfl, hb1⟩
  replace HB := Lib.hid (below_step HB.out hb1)
  replace KP := Lib.hid ((hb1.block _ (lt_of_block KP.out)).trans KP.out)
  replace KQ := Lib.hid ((hb1.block _ (lt_of_block KQ.out)).trans KQ.out)
  clear HZ2 hb1
  go_wp2
  go_ret
  exact ⟨rfl, HB.out⟩

theorem infoGraph : (Try.prog.info? 38).map (fun i => (i.zero, i.size, i.bytes)) = some (some (.agg #[.int .i64 0, .int .i64 0, .slice none 0 0]), 3, 40) := by kernel_rfl
theorem infoSGraph : (Try.prog.info? 38).map (·.size) = some 3 := by kernel_rfl
set_option maxRecDepth 100000 in
set_option maxHeartbeats 2000000 in
theorem toGraph_any (x : Gr) (vs : List Value) (S : Nat → Prop) (w : World) (hF : FGr S w vs x) (hS : ∀ b, S b → b < w.heap.size) (hn : x.wt ≤ 1048576) :
    Calls Try.prog 15 #[.agg vs.toArray] w fun e w' => ∃ us : List Value, e = .returned (.agg us.toArray) ∧ FGr (Seg w.heap.size w'.heap.size) w' us x ∧ Below w.heap.size w w' := by
  obtain ⟨ars, crs, rfl, rr0⟩ := hF
  unfold Gr.wt at hn
  have HZ2 := Lib.hid (fun (W : World) (hW : Below w.heap.size w W) => toArcS_any ars crs x.rs S W (RowIn.kept FAr_keeps rr0 (Same.below hS hW)) (fun b hb => Nat.lt_of_lt_of_le (hS b hb) hW.size) (by omega))
  clear rr0 hS
  have hb := alloc3_below w (Obj.cells #[.int .i64 x.f, .int .i64 x.t, .slice ars x.rs.length crs] 34) (Obj.cells #[.int .i64 0, .int .i64 0, .slice none 0 0] 38) (Obj.cells #[.int .i64 x.f, .int .i64 x.t, .slice none 0 0] 38)
  have hs0 := alloc3_size w (Obj.cells #[.int .i64 x.f, .int .i64 x.t, .slice ars x.rs.length crs] 34) (Obj.cells #[.int .i64 0, .int .i64 0, .slice none 0 0] 38) (Obj.cells #[.int .i64 x.f, .int .i64 x.t, .slice none 0 0] 38)
  have k1 := alloc3_1 w (Obj.cells #[.int .i64 x.f, .int .i64 x.t, .slice ars x.rs.length crs] 34) (Obj.cells #[.int .i64 0, .int .i64 0, .slice none 0 0] 38) (Obj.cells #[.int .i64 x.f, .int .i64 x.t, .slice none 0 0] 38)
  have k2 := alloc3_2 w (Obj.cells #[.int .i64 x.f, .int .i64 x.t, .slice ars x.rs.length crs] 34) (Obj.cells #[.int .i64 0, .int .i64 0, .slice none 0 0] 38) (Obj.cells #[.int .i64 x.f, .int .i64 x.t, .slice none 0 0] 38)
  have KP := Lib.hid (alloc3_0 w (Obj.cells #[.int .i64 x.f, .int .i64 x.t, .slice ars x.rs.length crs] 34) (Obj.cells #[.int .i64 0, .int .i64 0, .slice none 0 0] 38) (Obj.cells #[.int .i64 x.f, .int .i64 x.t, .slice none 0 0] 38))
  go_enter Try.func15, Try.ntmps15
  go_wp2_with fail
  refine (HZ2.out _ hb).mono ?_
  rintro e w2 ⟨g2, rfl, hI2, hb1⟩
  replace hI2 := RowIn.mono FAr_keeps hI2 (fun b hb => hb.mono (show w.heap.size + 3 ≤ _ by omega) (Nat.le_refl _))
  replace k1 := (hb1.block _ (by omega)).trans k1
  replace k2 := (hb1.block _ (by omega)).trans k2
  replace KP := Lib.hid ((hb1.block _ (lt_of_block KP.out)).trans KP.out)
  replace hb := below_step hb hb1
  replace hs0 : w.heap.size + 3 ≤ w2.heap.size := by have := hb1.size; omega
  clear HZ2 hb1
  have c10 := (cell_of_row _ (w.heap.size + 1) 0 _ _ _ k1)
  simp only [List.getElem?_toArray, List.getElem?_cons_zero, List.getElem?_cons_succ] at c10
  have c11 := (cell_of_row _ (w.heap.size + 1) 1 _ _ _ k1)
  simp only [List.getElem?_toArray, List.getElem?_cons_zero, List.getElem?_cons_succ] at c11
  have c12 := (cell_of_row _ (w.heap.size + 1) 2 _ _ _ k1)
  simp only [List.getElem?_toArray, List.getElem?_cons_zero, List.getElem?_cons_succ] at c12
  have c20 := (cell_of_row _ (w.heap.size + 2) 0 _ _ _ k2)
  simp only [List.getElem?_toArray, List.getElem?_cons_zero, List.getElem?_cons_succ] at c20
  have c21 := (cell_of_row _ (w.heap.size + 2) 1 _ _ _ k2)
  simp only [List.getElem?_toArray, List.getElem?_cons_zero, List.getElem?_cons_succ] at c21
  have c22 := (cell_of_row _ (w.heap.size + 2) 2 _ _ _ k2)
  simp only [List.getElem?_toArray, List.getElem?_cons_zero, List.getElem?_cons_succ] at c22
  have f10 := frozen_row k1 0
  have f20 := frozen_row k2 0
  have f11 := frozen_row k1 1
  have f21 := frozen_row k2 1
  have f12 := frozen_row k1 2
  have f22 := frozen_row k2 2
  try clear p0
  have p0 := cell_of_row _ (w.heap.size) 0 _ _ _ KP.out
  simp only [List.getElem?_toArray, List.getElem?_cons_zero, List.getElem?_cons_succ] at p0
  try clear p1
  have p1 := cell_of_row _ (w.heap.size) 1 _ _ _ KP.out
  simp only [List.getElem?_toArray, List.getElem?_cons_zero, List.getElem?_cons_succ] at p1
  try clear p2
  have p2 := cell_of_row _ (w.heap.size) 2 _ _ _ KP.out
  simp only [List.getElem?_toArray, List.getElem?_cons_zero, List.getElem?_cons_succ] at p2
  have HhI2 := Lib.hid hI2
  clear hI2
  have HK1 := Lib.hid k1
  have HK2 := Lib.hid k2
  have HB := Lib.hid hb
  clear k1 k2 hb
  go_wp2
  obtain ⟨hres, hbel, hsame, hsz⟩ := laid_out (w := w) (W := w2) (c := 3) 2 [.slice (some ⟨g2, 0, none⟩) x.rs.length x.rs.length] [.int .i64 x.f, .int .i64 x.t, .slice (some ⟨g2, 0, none⟩) x.rs.length x.rs.length] HK1.out HK2.out HB.out (by simp) (by simp) (by simp)
  refine bodyPost_ret (results_cell_row rfl _ _ (w.heap.size + 1) 38 #[.int .i64 x.f, .int .i64 x.t, .slice (some ⟨g2, 0, none⟩) x.rs.length x.rs.length] (0, 0) _ (by rfl) hres Try.underlying38 rfl infoSGraph) rfl ?_
  refine ⟨[.int .i64 x.f, .int .i64 x.t, .slice (some ⟨g2, 0, none⟩) x.rs.length x.rs.length], rfl, ⟨_, _, rfl, ?_⟩, hbel⟩
  · exact RowIn.mono FAr_keeps (RowIn.kept FAr_keeps HhI2.out (hsame _ (fun h => by have := h.1; omega) (fun h => by have := h.1; omega))) (fun b hb => hb.mono (by omega) (Nat.le_of_eq hsz.symm))


end Go.Proofs.Ytgjmefcognoepaa.Pr
