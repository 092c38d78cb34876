/-
  THE LAWS' OWN COPYING of lists of graphs: what it lays anew are plain rows.
-/
import Derived.Test.YtgjmefcognoepaaPGp
import Derived.Test.YtgjmefcognoepaaPG6
namespace Go.Proofs.Ytgjmefcognoepaa.Pr
open Go Go.RowKit Go.Maps Go.WideMaps

def TpRelGraphS (w : World) (l : List Gr) (v4 : Value) (wr : World) : Prop :=
  ∃ (k : Nat), v4 = .int .i64 (k : Int) ∧ k ≤ l.length ∧ RowTo FGr 3 38 w.heap.size w.heap.size wr l k ∧ Below w.heap.size w wr ∧ Plain w.heap.size wr

set_option maxRecDepth 100000 in
set_option maxHeartbeats 2000000 in
theorem tpGraphS_any (a : Option Addr) (cap : Nat) (l : List Gr) (S : Nat → Prop) (w : World) (hrow : RowIn FGr 3 S w a l) (hS : ∀ b, S b → b < w.heap.size) (hn : wtGraphS l ≤ 1048576) :
    Calls Try.prog 6 #[.slice a l.length cap] w fun e w' => ∃ g : Nat, e = .returned (.slice (some ⟨g, 0, none⟩) l.length l.length) ∧ RowIn FGr 3 (Seg w.heap.size w'.heap.size) w' (some ⟨g, 0, none⟩) l ∧ Below w.heap.size w w' ∧ Plain w.heap.size w' := by
  have HR := Lib.hid hrow
  have HS := Lib.hid hS
  have HW := Lib.hid hn
  have hln := lenGraphS l
  have hln2 : l.length ≤ 1048576 := by omega
  clear hrow hS hn hln
  obtain ⟨i0, hi0, hz0, hz1, hz2⟩ := info_parts infoGraph
  have hmk : (Instr.makeSlice 24 (.int .i64 (l.length : Int)) (.int .i64 (l.length : Int))).run Try.prog w = .ok (.slice (some ⟨w.heap.size, 0, none⟩) l.length l.length) (w.alloc (.cells (madeCells #[.int .i64 0, .int .i64 0, .slice none 0 0] (l.length * 3)) 38)) := by
    rw [run_make w 24 38 i0 _ Try.underlying24 hi0 hz0 .i64 .i64 _ _ (by omega) (by omega) (by rw [hz2]; omega) (by omega), hz1, Int.toNat_natCast]
    rfl
  have hst : TpRelGraphS w l (.int .i64 0) (w.alloc (.cells (madeCells #[.int .i64 0, .int .i64 0, .slice none 0 0] (l.length * 3)) 38)) :=
    ⟨0, rfl, Nat.zero_le _, ⟨⟨_, heap_alloc_new w _, size_madeCells _ _⟩, Nat.le_refl _, fun i h hi => by omega⟩, (Below.refl w.heap.size w).alloc (Nat.le_refl _) _, (Plain.start w).alloc _ _⟩
  have HST := Lib.hid hst
  generalize w.alloc (.cells (madeCells #[.int .i64 0, .int .i64 0, .slice none 0 0] (l.length * 3)) 38) = W0 at *
  clear hi0 hz0 hz1 hz2 hst
  go_enter Try.func6, Try.ntmps6
  go_wp2
  clear hmk
  go_loopw [4] (fun v4 wr => TpRelGraphS w l v4 wr) (fun v4 _ => (l.length - (intOf v4).toNat))
  case atStart => exact HST.out
  case round =>
    obtain ⟨k, rfl, hk, hto, hb, hp⟩ := hrel
    have HP := Lib.hid hp
    clear hp
    by_cases hlt : k < l.length
    · obtain ⟨b, off, vs, rfl, hbl, hvl, hcc, hFF⟩ := RowIn.kept FGr_keeps HR.out (Same.below HS.out hb) k hlt
      have HC := Lib.hid hFF
      obtain ⟨ars, crs, rfl, hh0⟩ := hFF
      have hx0 : wr.cell? ⟨b, off + k * 3, none⟩ = some (.int .i64 l[k].f) := hcc 0 (by simp)
      have hx1 : wr.cell? ⟨b, off + k * 3 + 1, none⟩ = some (.int .i64 l[k].t) := hcc 1 (by simp)
      have hx2 : wr.cell? ⟨b, off + k * 3 + 2, none⟩ = some (.slice ars l[k].rs.length crs) := hcc 2 (by simp)
      have hxw : l[k].wt ≤ 1048576 := by
        have h1 := HW.out
        have h2 := wsum_mem Gr.wt (List.getElem_mem hlt)
        unfold wtGraphS at h1
        omega
      have HZ := Lib.hid (tpGraph_any l[k] _ S wr HC.out (fun q hq => Nat.lt_of_lt_of_le (HS.out q hq) hb.size) hxw)
      have HSTEP := Lib.hid (fun (w1 : World) (hb1 : Below wr.heap.size wr w1) (us : List Value) (hu : us.length = 3) (hF : FGr (Seg wr.heap.size w1.heap.size) w1 us l[k]) => hto.step FGr_keeps hlt hb1 hu hF)
      have HROOM := Lib.hid (fun (w1 : World) (hb1 : Below wr.heap.size wr w1) (j : Nat) (hj : j < 3) => hto.room hb1 hlt hj)
      have HB := Lib.hid hb
      clear hb hto hcc hvl hbl HC hxw hh0
      generalize l[k] = x at *
      go_wp2_with fail
      refine HZ.out.mono ?_
      rintro e w1 ⟨us, rfl, hFu, hb1, hp1⟩
      have hul : us.length = 3 := by
        obtain ⟨ars, crs, rfl, gg0⟩ := hFu
        rfl
      obtain ⟨hr1, hr2⟩ := HSTEP.out w1 hb1 us hul hFu
      have HRR := Lib.hid ((⟨k + 1, by go_num, by omega, hr1, (HB.out.mono (Nat.le_refl _)).trans hr2, (HP.out.step hb1 hp1).setAll _ _ _⟩ : TpRelGraphS w l (.int .i64 ((k : Int) + 1)) (setAll w1 w.heap.size (k * 3) us)))
      obtain ⟨⟨u0, hu0⟩, hf0⟩ := HROOM.out w1 hb1 0 (by omega)
      obtain ⟨⟨u1, hu1⟩, hf1⟩ := HROOM.out w1 hb1 1 (by omega)
      obtain ⟨⟨u2, hu2⟩, hf2⟩ := HROOM.out w1 hb1 2 (by omega)
      clear HZ HSTEP HROOM hr1 hr2 hb1 hp1
      obtain ⟨ars, crs, rfl, gg0⟩ := hFu
      clear gg0
      simp only [Nat.add_zero] at hu0 hf0
      go_wp2
      go_roundw
      case rel => exact HRR.out
      case measure => simp [intOf]; omega
    · obtain rfl : k = l.length := by omega
      have HO := Lib.hid (hto.done FGr_keeps)
      clear hto
      go_wp2
      go_ret
      exact ⟨_, rfl, HO.out, hb, HP.out⟩

end Go.Proofs.Ytgjmefcognoepaa.Pr
