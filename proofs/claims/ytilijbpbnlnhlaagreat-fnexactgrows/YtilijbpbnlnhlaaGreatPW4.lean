/-
  THE WALKS of the binder's hasValue and bind.
-/
import Derived.Test.YtilijbpbnlnhlaaGreatPW3
import Derived.StillTailTactics
namespace Go.Proofs.YtilijbpbnlnhlaaGreat.Pr
open Go Go.RowKit Go.Maps Go.WideMaps Go.Sort Go.Proofs

theorem Bx.At.grown {c : Bx} {out : List ByteArray} {w w' : World} {r : Nat} (h : c.At out w) (hg : w.grownBy w' (some r)) (h1 : c.gb ≠ r) (h2 : c.mn ≠ r) (h3 : c.mb ≠ r) (h4 : ∀ b, c.S b → b ≠ r) : c.At out w' := by
  obtain ⟨n, D, g1, g2⟩ := h.names
  obtain ⟨D', g3, g4⟩ := h.bound
  exact ⟨(hg.block _ (lt_of_block h.blk) (fun e => h1 (Option.some.inj e))).trans h.blk, FRu_keeps.1 _ _ _ _ _ h.rule (fun b hb => hg.block b (h.sub b hb).1 (fun e => h4 b hb (Option.some.inj e))), fun b hs => ⟨Nat.lt_of_lt_of_le (h.sub b hs).1 hg.size, (h.sub b hs).2⟩, ⟨n, D, g1, g2.kept hg (fun e => h2 (Option.some.inj e))⟩, ⟨D', g3, g4.kept hg (fun e => h3 (Option.some.inj e))⟩, h.ne⟩
theorem grown_drewN (w : World) (q : Nat) : w.grownBy (w.drewN q) none := ⟨rfl, rfl, rfl, Nat.le_refl _, fun _ _ _ => rfl⟩
theorem grown_drew (w : World) : w.grownBy w.drew none := ⟨rfl, rfl, rfl, Nat.le_refl _, fun _ _ _ => rfl⟩
theorem look_name {w : World} {b n : Nat} {D : DataW Unit} {l : List (ByteArray × Nat)} {p : ByteArray × Nat} (hown : w.ownsMap Tryz.prog 9 (plainElem Tryz.prog 3) b n D) (hN : NameMap D l) (hp : p ∈ l) (hs : p.1.size ≤ 1048576) :
    (Instr.lookup 55 (.map (some b)) (.string p.1) false).run Tryz.prog w = .ok (.int .i64 (p.2 : Int)) w := by
  obtain ⟨c, hrun, hat, _⟩ := hown.lookup_int lawS Tryz.underlying55 Tryz.underlying3 (zeroI w) (keyS hs)
  rw [(hN.hit p hp).2] at hat
  obtain rfl : c = (p.2 : Int) := by simpa using hat.symm
  exact hrun
/-- In the midst of bind: ts are the names that have come. -/
def BRel (c : Bx) (out : List ByteArray) (w : World) (B r n : Nat) (D : DataW Unit) (wr : World) : Prop :=
  ∃ (left : Lit → Bool) (cnt : Nat) (ts : List ByteArray), wr.ranges Tryz.prog 9 (plainElem Tryz.prog 3) B r n D left cnt ∧ Collected D left (ts.map lst) ∧ c.At (addAll out ts) wr ∧ w.grownBy wr (some c.mb)

set_option maxRecDepth 100000 in
set_option maxHeartbeats 2000000 in
theorem bind_any (c : Bx) (out : List ByteArray) (P : List Nat) (a : Option Addr) (cap : Nat) (M : Nat → Prop) (w : World) (hA : c.At out w) (hP : IntsIn M w a (ints P)) (hM : ∀ b, M b → b < w.heap.size) (hlt : ∀ m ∈ P, m < c.u.es.length) (hl : P.length ≤ 1048576) :
    Calls Tryz.prog 84 #[.pointer (some ⟨c.gb, 0, none⟩), .slice a P.length cap] w fun e w' => e = .returned (.tuple #[]) ∧ w.grownBy w' (some c.mb) ∧ ∃ ts, (∀ s, s ∈ ts ↔ ∃ m ∈ P, (expAt c.u.es m).k = 1 ∧ txtAt c.u.es m = s) ∧ c.At (addAll out ts) w' := by
  have HNA := Lib.hid (namesAt_any c.u P a cap _ c.S M w hA.rule (fun b h => (hA.sub b h).1) c.wt hP hM hlt hl)
  have k0 := hA.blk
  have q0 := cell_of_row _ c.gb 0 _ _ _ k0
  have q1 := cell_of_row _ c.gb 1 _ _ _ k0
  have q2 := cell_of_row _ c.gb 2 _ _ _ k0
  have q3 := cell_of_row _ c.gb 3 _ _ _ k0
  have q4 := cell_of_row _ c.gb 4 _ _ _ k0
  simp only [List.getElem?_toArray, List.getElem?_cons_zero, List.getElem?_cons_succ] at q0 q1 q2 q3 q4
  have HA := Lib.hid hA
  have HLT := Lib.hid hlt
  clear hA hP hM hlt k0
  go_enter Tryz.func84, Tryz.ntmps84
  go_wp2_with fail
  refine HNA.out.mono ?_
  rintro e w1 ⟨⟨B, n, D, rfl, hB, hn, hN, hown⟩, hb1⟩
  have HA1 := Lib.hid (HA.out.below hb1)
  have HOW := Lib.hid hown
  have HN := Lib.hid hN
  clear hN hown HNA
  go_wp2_with (first
    | (at_range; refine wpList_range_own _ rfl _ 55 rfl 9 3 lawS Tryz.underlying55 _ B n D rfl HOW.out ?_; intro w2 hrg0 hg0 hs0))
  go_frame
  have hAw := HA.out
  obtain ⟨nn, Dn, _, hon⟩ := hAw.names
  have l1 := lt_of_block hAw.blk
  have l2 := hon.lt
  have l3 := hAw.lt
  have HSW := Lib.hid (fun b hb => (hAw.sub b hb).1)
  have HB := Lib.hid hB
  have HL := Lib.hid (And.intro l1 (And.intro l2 l3))
  have HS1 := Lib.hid hb1.size
  have hgw1 : w.grownBy w1 (some c.mb) := ⟨hb1.os, hb1.tape, hb1.output, hb1.size, fun k hk _ => hb1.block k hk⟩
  have HST := Lib.hid (show BRel c out w B w1.heap.size n D w2 from ⟨_, _, [], hrg0, Collected.start D, HA1.out.below ⟨hg0.os, hg0.tape, hg0.output, hg0.size, fun k hk => hg0.block k hk (by simp)⟩, ⟨hg0.os.trans hgw1.os, hg0.tape.trans hgw1.tape, hg0.output.trans hgw1.output, Nat.le_trans hgw1.size hg0.size, fun k hk hne => (hg0.block k (Nat.lt_of_lt_of_le hk hgw1.size) (by simp)).trans (hgw1.block k hk hne)⟩⟩)
  obtain ⟨r, hr⟩ : ∃ r, w1.heap.size = r := ⟨_, rfl⟩
  rw [hr] at HST HS1 ⊢
  clear hr hrg0 hg0 hs0 q0 q1 q2 q3 q4 hAw hon l1 l2 l3 hgw1 hB hb1 HA1 HOW
  go_loopw [4] (fun _ wr => BRel c out w B r n D wr) (fun _ wr => wr.rangeLeft B r)
  case atStart => exact HST.out
  case round =>
    obtain ⟨left, cnt, ts, hrg, hC, hA, hgw⟩ := hrel
    clear HST
    have HRG := Lib.hid hrg
    have HLE := Lib.hid hrg.left_eq
    have HC := Lib.hid hC
    have HAA := Lib.hid hA
    have HGW := Lib.hid hgw
    clear hrg hC hA hgw
    go_wp2_with (first
      | (at_next; refine wpList_next_ranges _ rfl _ rfl 9 lawS (plainElem Tryz.prog 3) encStr (Value.int .i64) (fun key kl hk => by obtain ⟨x, hx, _⟩ := Maps.keyOf_str Tryz.underlying9 hk; exact ⟨x, hx⟩) (fun v y hv => by obtain ⟨c, rfl, _⟩ := plainElem_int_inv Tryz.underlying3 hv; exact ⟨c, rfl⟩) B r n _ _ _ rfl HRG.out ?_ ?_))
    · intro hc0 hl0
      have HL0 := Lib.hid hl0
      clear hc0 hl0
      go_wp2
      go_end0
      refine ⟨rfl, HGW.out, ts, fun s => ?_, HAA.out⟩
      have hsub := collected_sub HN.out HC.out
      constructor
      · intro hs
        have := hsub.2 s hs
        rw [named_names] at this
        exact (mem_firsts _ _ _).1 this
      · intro hs
        have h2 := (mem_firsts _ _ _).2 hs
        rw [← named_names] at h2
        obtain ⟨p, hp, rfl⟩ := List.mem_map.1 h2
        obtain ⟨y, hy, e⟩ := List.mem_map.1 ((HC.out.2 (lst p.1)).2 ⟨(HN.out.hit p hp).1, HL0.out _⟩)
        rw [← lst_inj e]
        exact hy
    · intro x cc kl yd yp w3 cnt3 hkey hlk hv hat hrg3 hlt3 hg3 hs3 hen
      obtain ⟨x', ex, rfl, _⟩ := Maps.keyOf_str Tryz.underlying9 hkey
      obtain rfl : x = x' := encStr_inj ex
      have hL := HL.out
      have hS1 := HS1.out
      have hA3 := HAA.out.grown hg3 (by omega) (by omega) (by omega) (fun b hb => by have := HSW.out b hb; omega)
      have hCs := HC.out.step hlk hat
      -- the name is one of the rule
      obtain ⟨p0, hp0, ep0⟩ := (HN.out.has_iff ⟨x.toArray⟩).1 (by
        have := has_true_of_atKey hat
        exact this)
      obtain ⟨m, hm, hk1, htx⟩ := (mem_firsts c.u.es P ⟨x.toArray⟩).1 (by rw [← named_names]; exact List.mem_map.2 ⟨p0, hp0, ep0⟩)
      obtain ⟨p, hp, ep⟩ := List.mem_map.1 ((mem_allNames c.u.es ⟨x.toArray⟩).2 ⟨m, HLT.out m hm, hk1, htx⟩)
      have hsm := c.small hp
      obtain ⟨nn, Dn, hNn, hon⟩ := hA3.names
      obtain ⟨Db, hNb, hob⟩ := hA3.bound
      have hlook := look_name hon hNn hp hsm
      have hlook2 := look_name (hon.kept (grown_drew w3) (by simp)) hNn hp hsm
      have k3 := hA3.blk
      have c5 := cell_of_row _ c.gb 6 _ _ _ k3
      have c6 := cell_of_row _ c.gb 7 _ _ _ k3
      simp only [List.getElem?_toArray, List.getElem?_cons_zero, List.getElem?_cons_succ] at c5 c6
      have hen2 : (Instr.entry (.pointer (some ⟨r, 0, none⟩))).run Tryz.prog w3 = .ok (.tuple #[.string p.1, .int .i64 cc]) w3 := by rw [ep]; exact hen
      have hpl : p.2 ≤ 60 := by
        obtain ⟨a, ha, e⟩ := List.mem_map.1 hp
        have h1 := (firsts_sub _ _).subset ha
        have h2 := c.tree.few
        rw [← e]
        simp at h1 ⊢
        omega
      have HOB := Lib.hid (hob.kept (grown_drew w3) (by simp))
      have HNB := Lib.hid hNb
      have HA3 := Lib.hid hA3
      have HRG3 := Lib.hid hrg3
      have HG3 := Lib.hid hg3
      have HCS := Lib.hid hCs
      have HP := Lib.hid hp
      have HLT3 := Lib.hid hlt3
      have HEP := Lib.hid ep
      unfold encStr
      rw [show (⟨x.toArray⟩ : ByteArray) = p.1 from ep.symm]
      clear hA3 hCs hp0 ep0 hm hk1 htx hp hNn hon hNb hob k3 hkey hlk hv hat hrg3 hlt3 hg3 hs3 hen ex hL hS1 ep HRG HC
      go_wp2_with fail
      go_still_tail 11, (by kernel_rfl)
      change wpList _ _ _ _ _ w3.drew
      refine wpList_mapUpdate_own _ rfl (.tmp 19) (.tmp 20) (.tmp 26) 55 rfl 9 3 lawS Tryz.underlying55 _ c.mb 60 Db rfl HOB.out (by unfold maxLen; omega) (.string p.1) (.int .i64 (p.2 : Int)) _ rfl rfl (keyS hsm) _ [] (plainElem_int Tryz.underlying3 (WalkArith.wf_i64 (by omega))) ?_
      intro w4 hown4 hg4
      have hg4' : w3.grownBy w4 (some c.mb) := ⟨hg4.os, hg4.tape, hg4.output, hg4.size, fun k hk hne => hg4.block k hk hne⟩
      have hA4 := HA3.out.store HP.out hsm HNB.out hg4' hown4
      have hL := HL.out
      have hS1 := HS1.out
      have hrB := HB.out
      have hrg4 := HRG3.out.kept hg4' (fun e => by have := Option.some.inj e; omega) (fun e => by have := Option.some.inj e; omega)
      have HR := Lib.hid (show BRel c out w B r n D w4 from ⟨_, cnt3, ts ++ [p.1], hrg4, by
          rw [List.map_append, show [p.1].map lst = [x] by rw [HEP.out]; rfl]
          exact HCS.out, by rw [addAll_snoc]; exact hA4, by
          have h1 := HGW.out
          refine ⟨hg4'.os.trans (HG3.out.os.trans h1.os), hg4'.tape.trans (HG3.out.tape.trans h1.tape), hg4'.output.trans (HG3.out.output.trans h1.output), Nat.le_trans h1.size (Nat.le_trans HG3.out.size hg4'.size), fun k hk hne => ?_⟩
          rw [hg4'.block k (Nat.lt_of_lt_of_le hk (Nat.le_trans h1.size HG3.out.size)) hne, HG3.out.block k (Nat.lt_of_lt_of_le hk h1.size) (fun e => by have := Option.some.inj e; omega)]
          exact h1.block k hk hne⟩)
      have HME := Lib.hid (show w4.rangeLeft B r < wr.rangeLeft B r by rw [hrg4.left_eq, HLE.out]; exact HLT3.out)
      clear hown4 hg4 hg4' hA4 hrg4 hL hS1 hrB
      go_wp2
      go_roundw
      case rel => exact ⟨_, _, _, _, _, _, _, _, _, _, _, _, _, _, _, _, HR.out, rfl⟩
      case measure => exact HME.out

theorem lookok_name {w : World} {b n : Nat} {D : DataW Unit} {s : ByteArray} (hown : w.ownsMap Tryz.prog 9 (plainElem Tryz.prog 3) b n D) (hs : s.size ≤ 1048576) :
    ∃ cc : Int, ∀ w', w'.ownsMap Tryz.prog 9 (plainElem Tryz.prog 3) b n D → (Instr.lookup 55 (.map (some b)) (.string s) true).run Tryz.prog w' = .ok (.tuple #[.int .i64 cc, .bool (has D (.string (lst s)))]) w' := by
  have key : ∀ w', w'.ownsMap Tryz.prog 9 (plainElem Tryz.prog 3) b n D → ∃ cc : Int, D.atKey (.string (lst s)) (.lit (.int .i64 0)) = .lit (.int .i64 cc) ∧ (Instr.lookup 55 (.map (some b)) (.string s) true).run Tryz.prog w' = .ok (.tuple #[.int .i64 cc, .bool (has D (.string (lst s)))]) w' := fun w' h => by
    obtain ⟨v, ps, hr, hv⟩ := h.look_ok lawS Tryz.underlying55 (zeroI w') (plainElem_int Tryz.underlying3 (by rfl)) (keyS hs)
    obtain ⟨a, rfl, e, _⟩ := plainElem_int_inv Tryz.underlying3 hv
    exact ⟨a, congrArg Prod.fst e, hr⟩
  obtain ⟨cc, h1, _⟩ := key w hown
  refine ⟨cc, fun w' h => ?_⟩
  obtain ⟨cc', h2, h3⟩ := key w' h
  rw [h1] at h2
  obtain rfl : cc = cc' := by simpa using h2
  exact h3

def HVRel (c : Bx) (out : List ByteArray) (w1 : World) (P : List Nat) (v : Value) (wr : World) : Prop :=
  ∃ k : Nat, v = .int .i64 (k : Int) ∧ k ≤ P.length ∧ (∀ m ∈ P.take k, (expAt c.u.es m).k ≠ 2 ∧ ((expAt c.u.es m).k = 1 → txtAt c.u.es m ∈ out)) ∧ Below w1.heap.size w1 wr

set_option maxRecDepth 100000 in
set_option maxHeartbeats 2000000 in
theorem isBoundName_any (c : Bx) (out : List ByteArray) (m : Nat) (wr : World) (hA : c.At out wr) (hm : m < c.u.es.length) :
    Calls Tryz.prog 61 #[.pointer (some ⟨c.gb, 0, none⟩), .int .i64 (m : Int)] wr fun e w' => (∃ r : Bool, e = .returned (.bool r) ∧ (r = true ↔ (expAt c.u.es m).k = 1 ∧ txtAt c.u.es m ∈ out)) ∧ Below wr.heap.size wr w' := by
  have k0 := hA.blk
  have q0 := cell_of_row _ c.gb 0 _ _ _ k0
  have q6 := cell_of_row _ c.gb 7 _ _ _ k0
  simp only [List.getElem?_toArray, List.getElem?_cons_zero, List.getElem?_cons_succ] at q0 q6
  obtain ⟨aes, ces, ahd, chd, abd, cbd, hv, r0, _, _⟩ := hA.rule
  simp only [List.cons.injEq, Value.slice.injEq] at hv
  obtain ⟨⟨rfl, _, rfl⟩, _⟩ := hv
  obtain ⟨b, off, vs, ha, hSb, hvn, hcc, axs, cxs, rfl, hI⟩ := r0 m hm
  rw [ha] at q0
  have x0 : wr.cell? ⟨b, off + m * 3, none⟩ = some (.int .i64 c.u.es[m].k) := hcc 0 (by simp)
  have x1 : wr.cell? ⟨b, off + m * 3 + 1, none⟩ = some (.string c.u.es[m].s) := hcc 1 (by simp)
  have x2 : wr.cell? ⟨b, off + m * 3 + 2, none⟩ = some (.slice axs c.u.es[m].xs.length cxs) := hcc 2 (by simp)
  have hxs : c.u.es[m].s.size ≤ 1048576 := by
    have h1 := wsum_mem It.wt (List.getElem_mem hm)
    have hw := c.wt
    unfold Ru.wt wtExpS at hw
    have h2 : c.u.es[m].s.size ≤ c.u.es[m].wt := by unfold It.wt; omega
    omega
  rw [← expAt_lt hm] at x0 x1 x2 hxs
  obtain ⟨Db, hNb, hob⟩ := hA.bound
  have hhas : (expAt c.u.es m).k = 1 → (has Db (.string (lst (expAt c.u.es m).s)) = true ↔ txtAt c.u.es m ∈ out) := fun h1 => by
    rw [hNb.has_iff]
    constructor
    · rintro ⟨p, hp, e⟩
      have := (mem_sel.1 hp).2
      rw [e] at this
      exact this
    · intro ho
      obtain ⟨p, hp, e⟩ := List.mem_map.1 ((mem_allNames c.u.es (txtAt c.u.es m)).2 ⟨m, hm, h1, rfl⟩)
      exact ⟨p, mem_sel.2 ⟨hp, by rw [e]; exact ho⟩, e⟩
  obtain ⟨cc, hlook⟩ := lookok_name (s := (expAt c.u.es m).s) (hob.alloc (.cells #[.int .i64 (expAt c.u.es m).k, .string (expAt c.u.es m).s, .slice axs (expAt c.u.es m).xs.length cxs] 49)) hxs
  have hlk : ∀ q, (Instr.lookup 55 (.map (some c.mb)) (.string (expAt c.u.es m).s) true).run Tryz.prog ((wr.alloc (.cells #[.int .i64 (expAt c.u.es m).k, .string (expAt c.u.es m).s, .slice axs (expAt c.u.es m).xs.length cxs] 49)).drewN q) = .ok (.tuple #[.int .i64 cc, .bool (has Db (.string (lst (expAt c.u.es m).s)))]) ((wr.alloc (.cells #[.int .i64 (expAt c.u.es m).k, .string (expAt c.u.es m).s, .slice axs (expAt c.u.es m).xs.length cxs] 49)).drewN q) := fun q => hlook _ ((hob.alloc _).kept (grown_drewN _ q) (by simp))
  have HHAS := Lib.hid hhas
  have lgb := lt_of_block k0
  clear hA k0 r0 hcc hI hSb hvn hNb hob hhas hlook
  obtain ⟨x, hx⟩ : ∃ x, expAt c.u.es m = x := ⟨_, rfl⟩
  rw [hx] at x0 x1 x2 hxs HHAS hlk ⊢
  obtain ⟨hv, hhv⟩ : ∃ hv, has Db (.string (lst x.s)) = hv := ⟨_, rfl⟩
  rw [hhv] at hlk HHAS
  have hml : (m : Int) < (c.u.es.length : Int) := by omega
  clear hx hhv hm
  go_enter Tryz.func61, Tryz.ntmps61
  go_wp2
  go_quiet (fail)
  have hbW : ∀ q, Below wr.heap.size wr ((wr.alloc (.cells #[.int .i64 x.k, .string x.s, .slice axs x.xs.length cxs] 49)).drewN q) := fun q => below_drewN ((Below.refl _ _).alloc (Nat.le_refl _) _) q
  have HBW := Lib.hid hbW
  clear hlk hbW
  by_cases h1 : x.k = 1
  · have e1 : (x.k == 1) = true := by simp [h1]
    have HP := Lib.hid (show hv = true ↔ x.k = 1 ∧ txtAt c.u.es m ∈ out from ⟨fun h => ⟨h1, (HHAS.out h1).1 h⟩, fun h => (HHAS.out h1).2 h.2⟩)
    clear h1 HHAS
    go_wp2
    go_ret
    exact ⟨⟨hv, rfl, HP.out⟩, HBW.out _⟩
  · have e1 : (x.k == 1) = false := by simp [h1]
    have HP := Lib.hid (show false = true ↔ x.k = 1 ∧ txtAt c.u.es m ∈ out from ⟨fun h => (by cases h), fun h => absurd h.1 h1⟩)
    clear h1 HHAS
    go_wp2
    go_ret
    exact ⟨⟨false, rfl, HP.out⟩, HBW.out _⟩

set_option maxRecDepth 100000 in
set_option maxHeartbeats 2000000 in
theorem hasValue_any (c : Bx) (out : List ByteArray) (n : Nat) (w : World) (hA : c.At out w) (hn : n < c.u.es.length) :
    Calls Tryz.prog 54 #[.pointer (some ⟨c.gb, 0, none⟩), .int .i64 (n : Int)] w fun e w' => (∃ r : Bool, e = .returned (.bool r) ∧ (r = true ↔ (∀ m, In c.u.es allE n m → (expAt c.u.es m).k ≠ 2) ∧ ∀ v ∈ varsIn c.u.es n, v ∈ out)) ∧ Below w.heap.size w w' := by
  have HPO := Lib.hid (partsOf_any c.u n _ c.S w hA.rule (fun b h => (hA.sub b h).1) c.tree hn)
  have k0 := hA.blk
  have q0 := cell_of_row _ c.gb 0 _ _ _ k0
  have q1 := cell_of_row _ c.gb 1 _ _ _ k0
  have q2 := cell_of_row _ c.gb 2 _ _ _ k0
  have q3 := cell_of_row _ c.gb 3 _ _ _ k0
  have q4 := cell_of_row _ c.gb 4 _ _ _ k0
  simp only [List.getElem?_toArray, List.getElem?_cons_zero, List.getElem?_cons_succ] at q0 q1 q2 q3 q4
  have HA := Lib.hid hA
  have hfew := c.tree.few
  have HPI := Lib.hid (fun m => mem_parts (en := allE) c.tree hn (m := m))
  have hpl : (parts c.u.es allE n).length ≤ 60 := by
    unfold parts
    refine Nat.le_trans (List.length_filter_le _ _) ?_
    simp; omega
  have HPM := Lib.hid (show ∀ m ∈ parts c.u.es allE n, m < c.u.es.length from fun m hm => by have := ((mem_parts c.tree hn).1 hm).le c.tree hn; omega)
  have HMV := Lib.hid (mem_varsIn c.tree hn)
  clear hA k0 hn
  obtain ⟨P, hP⟩ : ∃ P, parts c.u.es allE n = P := ⟨_, rfl⟩
  rw [hP] at HPO HPI hpl HPM
  clear hP
  go_enter Tryz.func54, Tryz.ntmps54
  go_wp2_with fail
  refine HPO.out.mono ?_
  rintro e w1 ⟨⟨g, cap, rfl, hown⟩, hb1⟩
  have HA1 := Lib.hid (HA.out.below hb1)
  have HOW := Lib.hid hown
  have HB1 := Lib.hid hb1
  clear hown hb1 HPO q0 q1 q2 q3 q4
  go_wp2
  go_loopw [15] (fun v wr => HVRel c out w1 P v wr) (fun v _ => (P.length - (intOf v).toNat))
  case atStart => exact ⟨0, rfl, Nat.zero_le _, by simp, Below.refl _ _⟩
  case round =>
    obtain ⟨k, rfl, hk, hall, hb⟩ := hrel
    by_cases hlt : k < P.length
    · have hA := HA1.out.below hb
      have hrow := row_kept HOW.out hb
      have y0 : wr.cell? ⟨g, k, none⟩ = some (.int .i64 (P[k] : Int)) := by
        rw [hrow.cellAt k (by omega)]
        simp [intCells, ints, hlt]
      have hm := HPM.out P[k] (List.getElem_mem hlt)
      have htk : P.take (k + 1) = P.take k ++ [P[k]] := List.take_succ_eq_append_getElem hlt
      have hin := (HPI.out P[k]).1 (List.getElem_mem hlt)
      obtain ⟨m, hmm⟩ : ∃ m, P[k] = m := ⟨_, rfl⟩
      rw [hmm] at hm y0 htk hin
      have k0 := hA.blk
      have q0 := cell_of_row _ c.gb 0 _ _ _ k0
      simp only [List.getElem?_toArray, List.getElem?_cons_zero] at q0
      have HIB := Lib.hid (isBoundName_any c out m wr hA hm)
      obtain ⟨aes, ces, ahd, chd, abd, cbd, hv, r0, _, _⟩ := hA.rule
      simp only [List.cons.injEq, Value.slice.injEq] at hv
      obtain ⟨⟨rfl, _, rfl⟩, _, _, ⟨rfl, _, rfl⟩, ⟨rfl, _, rfl⟩, _⟩ := hv
      obtain ⟨b, off, vs, ha, hSb, hvn, hcc, axs, cxs, rfl, hI⟩ := r0 m hm
      rw [ha] at q0
      have x0 : wr.cell? ⟨b, off + m * 3, none⟩ = some (.int .i64 c.u.es[m].k) := hcc 0 (by simp)
      rw [← expAt_lt hm] at x0
      have hnext : (expAt c.u.es m).k ≠ 2 → ((expAt c.u.es m).k = 1 → txtAt c.u.es m ∈ out) → ∀ w', Below wr.heap.size wr w' → HVRel c out w1 P (.int .i64 ((k : Int) + 1)) w' := fun h1 h2 w' hw' => ⟨k + 1, by go_num, by omega, by
        rw [htk]
        intro x hx
        rcases List.mem_append.1 hx with hx | hx
        · exact hall x hx
        · simp only [List.mem_singleton] at hx
          rw [hx]
          exact ⟨h1, h2⟩, below_step hb hw'⟩
      have hfail : ((expAt c.u.es m).k = 2 ∨ ((expAt c.u.es m).k = 1 ∧ txtAt c.u.es m ∉ out)) → ¬ ((∀ m, In c.u.es allE n m → (expAt c.u.es m).k ≠ 2) ∧ ∀ v ∈ varsIn c.u.es n, v ∈ out) := fun h hc => by
        rcases h with h | ⟨h1, h2⟩
        · exact hc.1 m hin h
        · exact h2 (hc.2 _ ((HMV.out _).2 ⟨m, hin, h1, rfl⟩))
      have HNEXT := Lib.hid hnext
      have HFAIL := Lib.hid hfail
      have HB := Lib.hid hb
      have hml : (m : Int) < (c.u.es.length : Int) := by omega
      clear ha hall hb hA hrow htk hin hmm k0 r0 hcc hI hSb hvn hnext hfail hm
      obtain ⟨kk, hkk⟩ : ∃ kk, (expAt c.u.es m).k = kk := ⟨_, rfl⟩
      rw [hkk] at x0 HNEXT HFAIL HIB
      clear hkk
      by_cases h2 : kk = 2
      · have e2 : (kk == 2) = true := by simp [h2]
        have HF := Lib.hid (HFAIL.out (.inl h2))
        clear h2 HNEXT HFAIL HIB
        go_wp2
        go_ret
        exact ⟨⟨false, rfl, ⟨(fun h => nomatch h), fun h => absurd h HF.out⟩⟩, below_step HB1.out HB.out⟩
      · have e2 : (kk == 2) = false := by simp [h2]
        by_cases h1 : kk = 1
        · have e1 : (kk == 1) = true := by simp [h1]
          have HH1 := Lib.hid h1
          have HH2 := Lib.hid h2
          clear h1 h2
          go_wp2_with fail
          refine HIB.out.mono ?_
          rintro e w5 ⟨⟨hv, rfl, hhv⟩, hb5⟩
          have HHV := Lib.hid hhv
          have HB5 := Lib.hid hb5
          clear hhv hb5 HIB
          cases hv with
          | true =>
            have HR := Lib.hid (HNEXT.out HH2.out (fun _ => (HHV.out.1 rfl).2) _ HB5.out)
            clear HNEXT HFAIL
            go_wp2
            go_roundw
            case rel => exact HR.out
            case measure => (simp [intOf] <;> omega)
          | false =>
            have HF := Lib.hid (HFAIL.out (.inr ⟨HH1.out, fun h => by have := HHV.out.2 ⟨HH1.out, h⟩; cases this⟩))
            clear HNEXT HFAIL
            go_wp2
            go_ret
            exact ⟨⟨false, rfl, ⟨(fun h => nomatch h), fun h => absurd h HF.out⟩⟩, below_step HB1.out (below_step HB.out HB5.out)⟩
        · have e1 : (kk == 1) = false := by simp [h1]
          have HR := Lib.hid (HNEXT.out h2 (fun h => absurd h h1) wr (Below.refl _ _))
          clear h1 h2 HNEXT HFAIL HIB
          go_wp2
          go_roundw
          case rel => exact HR.out
          case measure => (simp [intOf] <;> omega)
    · obtain rfl : k = P.length := by omega
      rw [List.take_length] at hall
      have HALL := Lib.hid hall
      have HB := Lib.hid hb
      have hd : decide ((P.length : Int) < (P.length : Int)) = false := by simp
      clear hall hb
      go_wp2
      go_ret
      refine ⟨⟨true, rfl, ⟨fun _ => ⟨fun m hm => (HALL.out m ((HPI.out m).2 hm)).1, fun v hv => ?_⟩, fun _ => rfl⟩⟩, below_step HB1.out HB.out⟩
      obtain ⟨m, hm, h1, rfl⟩ := (HMV.out v).1 hv
      exact (HALL.out m ((HPI.out m).2 hm)).2 h1

/-- Whether a side binds: as the binder's own method tells. -/
theorem binds_any (c : Bx) (out : List ByteArray) (n : Nat) (w : World) (hA : c.At out w) (hn : n < c.u.es.length) :
    ∃ f, kfun c.K = .func (.func f) #[] #[] ∧ Calls Tryz.prog f #[.pointer (some ⟨c.gb, 0, none⟩), .int .i64 (n : Int)] w (fun e w' => (∃ r : Bool, e = .returned (.bool r) ∧ (r = true ↔ Can c.K c.u.es out n)) ∧ Below w.heap.size w w') := by
  cases hK : c.K with
  | false => exact ⟨_, rfl, hasValue_any c out n w hA hn⟩
  | true => exact ⟨_, rfl, isBoundName_any c out n w hA hn⟩

/-- What a method of the binder leaves. -/
def BPost (c : Bx) (out : List ByteArray) (w : World) (e : Ending) (w' : World) : Prop := e = .returned (.tuple #[]) ∧ w.grownBy w' (some c.mb) ∧ c.At out w'
theorem grown_step {w w1 w2 : World} {m : Nat} (h : w.grownBy w1 (some m)) (h' : w1.grownBy w2 (some m)) : w.grownBy w2 (some m) := ⟨h'.os.trans h.os, h'.tape.trans h.tape, h'.output.trans h.output, Nat.le_trans h.size h'.size, fun k hk hne => (h'.block k (Nat.lt_of_lt_of_le hk h.size) hne).trans (h.block k hk hne)⟩
theorem grown_of_below {w w1 : World} (h : Below w.heap.size w w1) (m : Nat) : w.grownBy w1 (some m) := ⟨h.os, h.tape, h.output, h.size, fun k hk _ => h.block k hk⟩

set_option maxRecDepth 100000 in
set_option maxHeartbeats 2000000 in
theorem bindBySide_any (c : Bx) (out : List ByteArray) (a b : Nat) (w : World) (hA : c.At out w) (ha : a < c.u.es.length) (hb : b < c.u.es.length) :
    Calls Tryz.prog 86 #[.pointer (some ⟨c.gb, 0, none⟩), .int .i64 (a : Int), .int .i64 (b : Int)] w (BPost c (eqSide c.K c.u.es out a b) w) := by
  have hK := binds_any c out a w hA ha
  have k0 := hA.blk
  have p5 := cell_of_row _ c.gb 5 _ _ _ k0
  simp only [List.getElem?_toArray, List.getElem?_cons_zero, List.getElem?_cons_succ] at p5
  have HHV := Lib.hid (show Calls Tryz.prog (if c.K then 61 else 54) #[.pointer (some ⟨c.gb, 0, none⟩), .int .i64 (a : Int)] w (fun e w' => (∃ r : Bool, e = .returned (.bool r) ∧ (r = true ↔ Can c.K c.u.es out a)) ∧ Below w.heap.size w w') from by
    obtain ⟨f, hf, hc⟩ := hK
    cases h : c.K with
    | false => rw [h] at hf hc; injection hf with hf; injection hf with hf; subst hf; exact hc
    | true => rw [h] at hf hc; injection hf with hf; injection hf with hf; subst hf; exact hc)
  have HA := Lib.hid hA
  have HBL := Lib.hid hb
  have hfew := c.tree.few
  clear hA ha hb hK k0
  obtain ⟨C, hC⟩ : ∃ C : Prop, C = Can c.K c.u.es out a := ⟨_, rfl⟩
  rw [← hC] at HHV
  obtain ⟨Q, hQ⟩ : ∃ Q, Q = BPost c (eqSide c.K c.u.es out a b) w := ⟨_, rfl⟩
  rw [← hQ]
  have HC := Lib.hid hC
  have HQ := Lib.hid hQ
  clear hC hQ
  obtain ⟨K, hKK⟩ : ∃ K, c.K = K := ⟨_, rfl⟩
  rw [hKK] at p5 HHV
  clear hKK
  go_enter Tryz.func86, Tryz.ntmps86
  cases K <;> (unfold kfun at p5; simp only [Bool.false_eq_true, ↓reduceIte] at HHV)
  all_goals
  go_wp2_with fail
  refine HHV.out.mono ?_
  rintro e w1 ⟨⟨r, rfl, hr⟩, hb1⟩
  have hA1 := HA.out.below hb1
  have k1 := hA1.blk
  have q0 := cell_of_row _ c.gb 0 _ _ _ k1
  have q1 := cell_of_row _ c.gb 1 _ _ _ k1
  have q2 := cell_of_row _ c.gb 2 _ _ _ k1
  have q3 := cell_of_row _ c.gb 3 _ _ _ k1
  have q4 := cell_of_row _ c.gb 4 _ _ _ k1
  simp only [List.getElem?_toArray, List.getElem?_cons_zero, List.getElem?_cons_succ] at q0 q1 q2 q3 q4
  have HIP := Lib.hid (isPattern_any c.u b _ c.S w1 hA1.rule (fun b h => (hA1.sub b h).1) c.tree HBL.out)
  have HA1 := Lib.hid hA1
  have HB1 := Lib.hid hb1
  have HR := Lib.hid hr
  clear hA1 k1 hb1 hr HHV
  cases r with
  | false =>
    have hne : ¬ SideOk c.K c.u.es out a b := fun h => by have := HR.out.2 (HC.out ▸ h.1); cases this
    have HP := Lib.hid (show BPost c (eqSide c.K c.u.es out a b) w (.returned (.tuple #[])) w1 from ⟨rfl, grown_of_below HB1.out _, by unfold eqSide; rw [if_neg hne]; exact HA1.out⟩)
    clear hne HR HIP
    go_wp2
    go_end0
    rw [HQ.out]
    exact HP.out
  | true =>
    have HRT := Lib.hid (HR.out.1 rfl)
    clear HR
    go_wp2_with fail
    refine HIP.out.mono ?_
    rintro e w2 ⟨⟨r, rfl, hr⟩, hb2⟩
    have hA2 := HA1.out.below hb2
    have HB2 := Lib.hid (below_step HB1.out hb2)
    have HR2 := Lib.hid hr
    clear hr hb2 HIP q0 q1 q2 q3 q4
    cases r with
    | false =>
      have hne : ¬ SideOk c.K c.u.es out a b := fun h => by have := HR2.out.2 h.2; cases this
      have HP := Lib.hid (show BPost c (eqSide c.K c.u.es out a b) w (.returned (.tuple #[])) w2 from ⟨rfl, grown_of_below HB2.out _, by unfold eqSide; rw [if_neg hne]; exact hA2⟩)
      clear hne HRT HR2 hA2
      go_wp2
      go_end0
      rw [HQ.out]
      exact HP.out
    | true =>
      have hok : SideOk c.K c.u.es out a b := ⟨HC.out ▸ HRT.out, HR2.out.1 rfl⟩
      have HOK := Lib.hid hok
      have k2 := hA2.blk
      have q0 := cell_of_row _ c.gb 0 _ _ _ k2
      have q1 := cell_of_row _ c.gb 1 _ _ _ k2
      have q2 := cell_of_row _ c.gb 2 _ _ _ k2
      have q3 := cell_of_row _ c.gb 3 _ _ _ k2
      have q4 := cell_of_row _ c.gb 4 _ _ _ k2
      simp only [List.getElem?_toArray, List.getElem?_cons_zero, List.getElem?_cons_succ] at q0 q1 q2 q3 q4
      have HPO := Lib.hid (partsOf_any c.u b _ c.S w2 hA2.rule (fun b h => (hA2.sub b h).1) c.tree HBL.out)
      have HA2 := Lib.hid hA2
      clear hA2 k2 hok HRT HR2
      go_wp2_with fail
      refine HPO.out.mono ?_
      rintro e w3 ⟨⟨g, cap, rfl, hown⟩, hb3⟩
      have hA3 := HA2.out.below hb3
      have HB3 := Lib.hid (below_step HB2.out hb3)
      have hpl : (parts c.u.es allE b).length ≤ 60 := by
        unfold parts
        refine Nat.le_trans (List.length_filter_le _ _) ?_
        have := HBL.out
        simp; omega
      have HBI := Lib.hid (bind_any c out (parts c.u.es allE b) _ cap _ w3 hA3 (own_ints hown) (fun b h => h.2) (fun m hm => by have := ((mem_parts c.tree HBL.out).1 hm).le c.tree HBL.out; have := HBL.out; omega) (by omega))
      clear hA3 hown hb3 hpl HPO q0 q1 q2 q3 q4
      go_wp2_with fail
      refine HBI.out.mono ?_
      rintro e w4 ⟨rfl, hg4, ts, hts, hA4⟩
      have HP := Lib.hid (show BPost c (eqSide c.K c.u.es out a b) w (.returned (.tuple #[])) w4 from ⟨rfl, grown_step (grown_of_below HB3.out _) hg4, by
        unfold eqSide
        rw [if_pos HOK.out]
        refine hA4.congr fun x => ?_
        rw [mem_addAll, mem_addAll, hts, mem_varsIn c.tree HBL.out]
        constructor
        · rintro (h | ⟨m, hm, h⟩)
          · exact .inl h
          · exact .inr ⟨m, (mem_parts c.tree HBL.out).1 hm, h⟩
        · rintro (h | ⟨m, hm, h⟩)
          · exact .inl h
          · exact .inr ⟨m, (mem_parts c.tree HBL.out).2 hm, h⟩⟩)
      clear hg4 hts hA4 HBI
      go_wp2
      go_end0
      rw [HQ.out]
      exact HP.out

theorem Bx.At.body {c : Bx} {out : List ByteArray} {w : World} (h : c.At out w) : RowIn FIt 3 c.S w c.abd c.u.bd := by
  obtain ⟨aes, ces, ahd, chd, abd, cbd, hv, _, _, r2⟩ := h.rule
  simp only [List.cons.injEq, Value.slice.injEq, and_true, true_and] at hv
  obtain ⟨_, _, h1, _⟩ := hv
  rw [h1]
  exact r2
theorem Bx.lit (c : Bx) {l : It} (hl : l ∈ c.u.bd) : litOk l = true ∧ ∀ x ∈ l.xs, 0 ≤ x ∧ x < (c.u.es.length : Int) := ⟨c.ok.body l hl, fun x hx => c.ok.good.arg l (by simp [hl]) x hx⟩
def BERel (c : Bx) (out : List ByteArray) (w : World) (v : Value) (wr : World) : Prop :=
  ∃ k : Nat, v = .int .i64 (k : Int) ∧ k ≤ c.u.bd.length ∧ c.At (passB c.K c.u.es (c.u.bd.take k) out) wr ∧ w.grownBy wr (some c.mb)

set_option maxRecDepth 100000 in
set_option maxHeartbeats 2000000 in
theorem bindByEquations_any (c : Bx) (out : List ByteArray) (w : World) (hA : c.At out w) :
    Calls Tryz.prog 71 #[.pointer (some ⟨c.gb, 0, none⟩)] w (BPost c (passB c.K c.u.es c.u.bd out) w) := by
  have k0 := hA.blk
  have q4 := cell_of_row _ c.gb 4 _ _ _ k0
  simp only [List.getElem?_toArray, List.getElem?_cons_zero, List.getElem?_cons_succ] at q4
  have HA := Lib.hid hA
  have hbl : c.u.bd.length ≤ 1048576 := by have := c.wt; unfold Ru.wt wtLitS at this; omega
  clear hA k0
  go_enter Tryz.func71, Tryz.ntmps71
  go_wp2
  clear q4
  go_loopw [10] (fun v wr => BERel c out w v wr) (fun v _ => (c.u.bd.length - (intOf v).toNat))
  case atStart => exact ⟨0, rfl, Nat.zero_le _, HA.out, grown_of_below (Below.refl _ _) _⟩
  case round =>
    obtain ⟨k, rfl, hk, hA, hgw⟩ := hrel
    by_cases hlt : k < c.u.bd.length
    · have r2 := hA.body
      obtain ⟨b, off, vs, ha, hSb, hvn, hcc, axs, cxs, rfl, hI⟩ := r2 k hlt
      have x0 : wr.cell? ⟨b, off + k * 3, none⟩ = some (.int .i64 c.u.bd[k].k) := hcc 0 (by simp)
      have x1 : wr.cell? ⟨b, off + k * 3 + 1, none⟩ = some (.string c.u.bd[k].s) := hcc 1 (by simp)
      have x2 : wr.cell? ⟨b, off + k * 3 + 2, none⟩ = some (.slice axs c.u.bd[k].xs.length cxs) := hcc 2 (by simp)
      have hlit := c.lit (List.getElem_mem hlt)
      have htk : ∀ o, passB c.K c.u.es (c.u.bd.take (k + 1)) o = eqLit c.K c.u.es (passB c.K c.u.es (c.u.bd.take k) o) c.u.bd[k] := fun o => by
        unfold passB
        rw [List.take_succ_eq_append_getElem hlt, List.foldl_append]
        rfl
      obtain ⟨l, hl⟩ : ∃ l, c.u.bd[k] = l := ⟨_, rfl⟩
      rw [hl] at x0 x1 x2 hI hlit htk
      have hb3 : Below wr.heap.size wr (wr.alloc (.cells #[.int .i64 l.k, .string l.s, .slice axs l.xs.length cxs] 33)) := (Below.refl _ _).alloc (Nat.le_refl _) _
      have k3 := heap_alloc_new wr (.cells #[.int .i64 l.k, .string l.s, .slice axs l.xs.length cxs] 33)
      have hA3 := hA.below hb3
      have hmb := hA.lt
      have hsub := hA.sub
      have HTK := Lib.hid (htk out)
      have HGW := Lib.hid hgw
      obtain ⟨W, hW⟩ : ∃ W, wr.alloc (.cells #[.int .i64 l.k, .string l.s, .slice axs l.xs.length cxs] 33) = W := ⟨_, rfl⟩
      rw [hW] at hb3 k3 hA3
      have c0 := cell_of_row _ wr.heap.size 0 _ _ _ k3
      have c1 := cell_of_row _ wr.heap.size 1 _ _ _ k3
      have c2 := cell_of_row _ wr.heap.size 2 _ _ _ k3
      simp only [List.getElem?_toArray, List.getElem?_cons_zero, List.getElem?_cons_succ] at c0 c1 c2
      rw [ha]
      have HA3 := Lib.hid hA3
      have HB3 := Lib.hid hb3
      have HK3 := Lib.hid k3
      clear hA hgw r2 hcc hvn htk hA3 hb3 k3 ha hl
      have hskip : ¬ isEq l → BERel c out w (.int .i64 ((k : Int) + 1)) W := fun h => ⟨k + 1, by go_num, by omega, by rw [HTK.out, eqLit, if_neg h]; exact HA3.out, grown_step HGW.out (grown_of_below HB3.out _)⟩
      by_cases h3 : l.k = 3
      · have e3 : (l.k == 3) = true := by simp [h3]
        by_cases hs : l.s = ⟨#[61]⟩
        · have es : (l.s.toList == [61]) = true := by rw [hs, ByteArray.toList_eq]; rfl
          have heq : isEq l := ⟨h3, hs⟩
          obtain ⟨x, y, hxy⟩ : ∃ x y, l.xs = [x, y] := by
            have h2 : l.xs.length = 2 := by
              have := hlit.1
              unfold litOk at this
              rw [h3] at this
              simpa using this
            match hm : l.xs, h2 with
            | [x, y], _ => exact ⟨x, y, rfl⟩
          have hx := hlit.2 x (by rw [hxy]; simp)
          have hy := hlit.2 y (by rw [hxy]; simp)
          obtain ⟨m, rfl⟩ := Int.eq_ofNat_of_zero_le hx.1
          obtain ⟨n, rfl⟩ := Int.eq_ofNat_of_zero_le hy.1
          have hml : m < c.u.es.length := by omega
          have hnl : n < c.u.es.length := by omega
          have ea0 : argAt l 0 = m := by unfold argAt; rw [hxy]; rfl
          have ea1 : argAt l 1 = n := by unfold argAt; rw [hxy]; rfl
          rw [hxy] at hI c2 x2 hW HK3
          obtain ⟨b4, o4, rfl, hS4, y0⟩ := hI 0 (by simp)
          obtain ⟨b5, o5, he, hS5, y1⟩ := hI 1 (by simp)
          obtain ⟨rfl, rfl⟩ : b4 = b5 ∧ o4 = o5 := by simpa using he
          simp only [List.getElem_cons_zero, List.getElem_cons_succ, Nat.add_zero] at y0 y1
          have hbl4 := (hsub b4 hS4).1
          have hne4 := (hsub b4 hS4).2
          have z0 : W.cell? ⟨b4, o4, none⟩ = some (.int .i64 (m : Int)) := (HB3.out.cell (p := ⟨b4, o4, none⟩) hbl4).trans y0
          have z1 : W.cell? ⟨b4, o4 + 1, none⟩ = some (.int .i64 (n : Int)) := (HB3.out.cell (p := ⟨b4, o4 + 1, none⟩) hbl4).trans y1
          have hAd := HA3.out.below (w' := W.drew) (Below.refl _ _).drew
          have HC1 := Lib.hid (bindBySide_any c _ m n W.drew hAd hml hnl)
          have HEQ := Lib.hid (show eqLit c.K c.u.es (passB c.K c.u.es (c.u.bd.take k) out) l = eqSide c.K c.u.es (eqSide c.K c.u.es (passB c.K c.u.es (c.u.bd.take k) out) m n) n m by rw [eqLit, if_pos heq, ea0, ea1])
          clear hskip heq ea0 ea1 hxy hI he hlit hAd hx hy h3 hs
          simp only [List.length_cons, List.length_nil] at c2 x2 hW HK3
          go_wp2_with fail
          go_still_tail 9, (by kernel_rfl)
          change wpList _ _ _ _ _ W.drew
          go_wp2_with fail
          refine HC1.out.mono ?_
          rintro e w2 ⟨rfl, hg2, hA2⟩
          have hg2' : W.grownBy w2 (some c.mb) := ⟨hg2.os, hg2.tape, hg2.output, hg2.size, fun k hk hne => hg2.block k hk hne⟩
          have K2 := (hg2'.block _ (lt_of_block HK3.out) (fun e => by have := Option.some.inj e; omega)).trans HK3.out
          have hWs := HB3.out.size
          have z0' : w2.cell? ⟨b4, o4, none⟩ = some (.int .i64 (m : Int)) := by
            rw [← z0]; unfold World.cell?; rw [show (⟨b4, o4, none⟩ : Addr).block = b4 from rfl, hg2'.block b4 (by omega) (fun e => hne4 (Option.some.inj e))]
          have z1' : w2.cell? ⟨b4, o4 + 1, none⟩ = some (.int .i64 (n : Int)) := by
            rw [← z1]; unfold World.cell?; rw [show (⟨b4, o4 + 1, none⟩ : Addr).block = b4 from rfl, hg2'.block b4 (by omega) (fun e => hne4 (Option.some.inj e))]
          have c2' := cell_of_row _ wr.heap.size 2 _ _ _ K2
          simp only [List.getElem?_toArray, List.getElem?_cons_zero, List.getElem?_cons_succ] at c2'
          have HC2 := Lib.hid (bindBySide_any c _ n m w2.drew (hA2.below (w' := w2.drew) (Below.refl _ _).drew) hnl hml)
          have HG2 := Lib.hid (grown_step (grown_step HGW.out (grown_of_below HB3.out _)) hg2')
          clear hg2 hg2' hA2 K2 HC1 c0 c1 c2 x0 x1 x2 z0 z1 y0 y1 e3 es hWs hW
          go_wp2_with fail
          go_still_tail 9, (by kernel_rfl)
          change wpList _ _ _ _ _ w2.drew
          go_wp2_with fail
          refine HC2.out.mono ?_
          rintro e w3 ⟨rfl, hg3, hA3⟩
          have HR := Lib.hid (show BERel c out w (.int .i64 ((k : Int) + 1)) w3 from ⟨k + 1, by go_num, by omega, by rw [HTK.out, HEQ.out]; exact hA3, grown_step HG2.out ⟨hg3.os, hg3.tape, hg3.output, hg3.size, fun k hk hne => hg3.block k hk hne⟩⟩)
          clear hg3 hA3 HC2 c2' z0' z1'
          go_wp2
          go_roundw
          case rel => exact HR.out
          case measure => (simp [intOf] <;> omega)
        · have es : (l.s.toList == [61]) = false := by
            rw [beq_eq_false_iff_ne]
            intro h
            exact hs (lst_inj (by rw [ByteArray.toList_eq] at h; exact h))
          have HR := Lib.hid (hskip (fun h => hs h.2))
          clear hskip hs h3 hI hlit
          go_wp2
          go_roundw
          case rel => exact HR.out
          case measure => (simp [intOf] <;> omega)
      · have e3 : (l.k == 3) = false := by simp [h3]
        have HR := Lib.hid (hskip (fun h => h3 h.1))
        clear hskip h3 hI hlit
        go_wp2
        go_roundw
        case rel => exact HR.out
        case measure => (simp [intOf] <;> omega)
    · obtain rfl : k = c.u.bd.length := by omega
      have hd : decide ((c.u.bd.length : Int) < (c.u.bd.length : Int)) = false := by simp
      rw [List.take_length] at hA
      have HP := Lib.hid (show BPost c (passB c.K c.u.es c.u.bd out) w (.returned (.tuple #[])) wr from ⟨rfl, hgw, hA⟩)
      clear hA hgw
      go_wp2
      go_end0
      exact HP.out

def BARel (c : Bx) (w : World) (v : Value) (wr : World) : Prop :=
  ∃ k : Nat, v = .int .i64 (k : Int) ∧ k ≤ c.u.bd.length ∧ c.At (atomsB c.u.es (c.u.bd.take k)) wr ∧ w.grownBy wr (some c.mb)
noncomputable def atomArgs (es : List It) (out : List ByteArray) (xs : List Int) : List ByteArray := xs.foldl (fun o x => addAll o (atomVars es x.toNat)) out
def BAIn (c : Bx) (out : List ByteArray) (w : World) (xs : List Int) (v : Value) (wr : World) : Prop :=
  ∃ j : Nat, v = .int .i64 (j : Int) ∧ j ≤ xs.length ∧ c.At (atomArgs c.u.es out (xs.take j)) wr ∧ w.grownBy wr (some c.mb)

set_option maxRecDepth 100000 in
set_option maxHeartbeats 2000000 in
theorem bindByAtoms_any (c : Bx) (w : World) (hA : c.At [] w) :
    Calls Tryz.prog 70 #[.pointer (some ⟨c.gb, 0, none⟩)] w (BPost c (atomsB c.u.es c.u.bd) w) := by
  have k0 := hA.blk
  have q4 := cell_of_row _ c.gb 4 _ _ _ k0
  simp only [List.getElem?_toArray, List.getElem?_cons_zero, List.getElem?_cons_succ] at q4
  have HA := Lib.hid hA
  have hbl : c.u.bd.length ≤ 1048576 := by have := c.wt; unfold Ru.wt wtLitS at this; omega
  clear hA k0
  go_enter Tryz.func70, Tryz.ntmps70
  go_wp2
  clear q4
  go_loopw [12] (fun v wr => BARel c w v wr) (fun v _ => (c.u.bd.length - (intOf v).toNat))
  case atStart => exact ⟨0, rfl, Nat.zero_le _, HA.out, grown_of_below (Below.refl _ _) _⟩
  case round =>
    obtain ⟨k, rfl, hk, hA, hgw⟩ := hrel
    by_cases hlt : k < c.u.bd.length
    · have r2 := hA.body
      obtain ⟨b, off, vs, ha, hSb, hvn, hcc, axs, cxs, rfl, hI⟩ := r2 k hlt
      have x0 : wr.cell? ⟨b, off + k * 3, none⟩ = some (.int .i64 c.u.bd[k].k) := hcc 0 (by simp)
      have x1 : wr.cell? ⟨b, off + k * 3 + 1, none⟩ = some (.string c.u.bd[k].s) := hcc 1 (by simp)
      have x2 : wr.cell? ⟨b, off + k * 3 + 2, none⟩ = some (.slice axs c.u.bd[k].xs.length cxs) := hcc 2 (by simp)
      have hlit := c.lit (List.getElem_mem hlt)
      have hroot : ∀ x ∈ c.u.bd[k].xs, x.toNat < c.u.es.length ∧ ∀ p, p < c.u.es.length → x.toNat ∉ kidsE c.u.es allE p := fun x hx => c.ok.good.root (List.mem_cons_of_mem _ (List.getElem_mem hlt)) hx
      have htk : atomsB c.u.es (c.u.bd.take (k + 1)) = atomLit c.u.es (atomsB c.u.es (c.u.bd.take k)) c.u.bd[k] := by
        unfold atomsB
        rw [List.take_succ_eq_append_getElem hlt, List.foldl_append]
        rfl
      have hxl : c.u.bd[k].xs.length ≤ 1048576 := by
        have h1 := wsum_mem It.wt (List.getElem_mem hlt)
        have h2 := c.wt
        unfold Ru.wt wtLitS at h2
        have h3 : c.u.bd[k].xs.length ≤ c.u.bd[k].wt := by unfold It.wt wtIntS; omega
        omega
      obtain ⟨l, hl⟩ : ∃ l, c.u.bd[k] = l := ⟨_, rfl⟩
      rw [hl] at x0 x1 x2 hI hlit htk hroot hxl
      have hb3 : Below wr.heap.size wr (wr.alloc (.cells #[.int .i64 l.k, .string l.s, .slice axs l.xs.length cxs] 33)) := (Below.refl _ _).alloc (Nat.le_refl _) _
      have k3 := heap_alloc_new wr (.cells #[.int .i64 l.k, .string l.s, .slice axs l.xs.length cxs] 33)
      have hA3 := hA.below hb3
      have hsub := hA.sub
      have HTK := Lib.hid htk
      have HGW := Lib.hid hgw
      obtain ⟨W, hW⟩ : ∃ W, wr.alloc (.cells #[.int .i64 l.k, .string l.s, .slice axs l.xs.length cxs] 33) = W := ⟨_, rfl⟩
      rw [hW] at hb3 k3 hA3
      have c0 := cell_of_row _ wr.heap.size 0 _ _ _ k3
      have c1 := cell_of_row _ wr.heap.size 1 _ _ _ k3
      have c2 := cell_of_row _ wr.heap.size 2 _ _ _ k3
      simp only [List.getElem?_toArray, List.getElem?_cons_zero, List.getElem?_cons_succ] at c0 c1 c2
      rw [ha]
      have HA3 := Lib.hid hA3
      have HB3 := Lib.hid hb3
      have HI := Lib.hid (show IntsIn c.S W axs l.xs from hI.kept (Same.below (fun b hb => (hsub b hb).1) hb3))
      have HSW := Lib.hid (show ∀ b, c.S b → b < W.heap.size ∧ b ≠ c.mb from hA3.sub)
      have HROOT := Lib.hid hroot
      have HLIT := Lib.hid hlit
      clear hA hgw r2 hcc hvn htk hA3 hb3 k3 ha hl hI hsub hroot hlit
      by_cases h1 : l.k = 1
      · have e1 : (l.k != 1) = false := by simp [h1]
        have HNX := Lib.hid (fun (w' : World) (h : c.At (atomArgs c.u.es (atomsB c.u.es (c.u.bd.take k)) l.xs) w') (hg : W.grownBy w' (some c.mb)) => (⟨k + 1, by go_num, by omega, by rw [HTK.out, atomLit, if_pos h1]; exact h, grown_step (grown_step HGW.out (grown_of_below HB3.out _)) hg⟩ : BARel c w (.int .i64 ((k : Int) + 1)) w'))
        clear h1
        go_wp2
        go_loopw [22] (fun v wr' => BAIn c (atomsB c.u.es (c.u.bd.take k)) W l.xs v wr') (fun v _ => (l.xs.length - (intOf v).toNat))
        case atStart => exact ⟨0, rfl, Nat.zero_le _, HA3.out, grown_of_below (Below.refl _ _) _⟩
        case round =>
          obtain ⟨j, rfl, hj, hA, hg⟩ := hrel
          clear x0 x1 x2 c0 c1 c2 e1 hW
          by_cases hjl : j < l.xs.length
          · obtain ⟨b4, o4, hax, hS4, y0⟩ := HI.out j hjl
            have hin := HLIT.out.2 l.xs[j] (List.getElem_mem hjl)
            have hrt := HROOT.out l.xs[j] (List.getElem_mem hjl)
            have y1 : wr.cell? ⟨b4, o4 + j, none⟩ = some (.int .i64 l.xs[j]) := by
              rw [← y0]; unfold World.cell?; rw [show (⟨b4, o4 + j, none⟩ : Addr).block = b4 from rfl, hg.block b4 (HSW.out b4 hS4).1 (fun e => (HSW.out b4 hS4).2 (Option.some.inj e))]
            have htk2 : atomArgs c.u.es (atomsB c.u.es (c.u.bd.take k)) (l.xs.take (j + 1)) = addAll (atomArgs c.u.es (atomsB c.u.es (c.u.bd.take k)) (l.xs.take j)) (atomVars c.u.es l.xs[j].toNat) := by
              unfold atomArgs
              rw [List.take_succ_eq_append_getElem hjl, List.foldl_append]
              rfl
            obtain ⟨m, hm⟩ := Int.eq_ofNat_of_zero_le hin.1
            rw [hm] at y1 htk2 hrt
            rw [show ((m : Int)).toNat = m from rfl] at htk2 hrt
            have k4 := hA.blk
            have q0 := cell_of_row _ c.gb 0 _ _ _ k4
            have q1 := cell_of_row _ c.gb 1 _ _ _ k4
            have q2 := cell_of_row _ c.gb 2 _ _ _ k4
            have q3 := cell_of_row _ c.gb 3 _ _ _ k4
            have q4 := cell_of_row _ c.gb 4 _ _ _ k4
            simp only [List.getElem?_toArray, List.getElem?_cons_zero, List.getElem?_cons_succ] at q0 q1 q2 q3 q4
            have HPO := Lib.hid (partsOut_any c.u m _ c.S wr hA.rule (fun b h => (hA.sub b h).1) c.tree hrt.1)
            have HAA := Lib.hid hA
            have HG := Lib.hid hg
            have HTK2 := Lib.hid htk2
            have HRT := Lib.hid hrt
            have hfew := c.tree.few
            rw [hax]
            clear hin hax y0 hA hg htk2 hrt k4 hm
            go_wp2_with fail
            refine HPO.out.mono ?_
            rintro e w5 ⟨⟨g, cap, rfl, hown⟩, hb5⟩
            have hA5 := HAA.out.below hb5
            have hpl : (parts c.u.es noSumE m).length ≤ 60 := by
              unfold parts
              refine Nat.le_trans (List.length_filter_le _ _) ?_
              have := HRT.out.1
              simp; omega
            have HBI := Lib.hid (bind_any c _ (parts c.u.es noSumE m) _ cap _ w5 hA5 (own_ints hown) (fun b h => h.2) (fun x hx => by have := ((mem_parts c.tree HRT.out.1).1 hx).le c.tree HRT.out.1; have := HRT.out.1; omega) (by omega))
            have HB5 := Lib.hid hb5
            clear hA5 hown hb5 hpl HPO q0 q1 q2 q3 q4
            go_wp2_with fail
            refine HBI.out.mono ?_
            rintro e w6 ⟨rfl, hg6, ts, hts, hA6⟩
            have HR := Lib.hid (show BAIn c (atomsB c.u.es (c.u.bd.take k)) W l.xs (.int .i64 ((j : Int) + 1)) w6 from ⟨j + 1, by go_num, by omega, by
              rw [HTK2.out]
              refine hA6.congr fun x => ?_
              rw [mem_addAll, mem_addAll, hts, mem_atomVars c.tree HRT.out.1 HRT.out.2], grown_step (grown_step HG.out (grown_of_below HB5.out _)) hg6⟩)
            clear hg6 hts hA6 HBI
            go_wp2
            go_roundw
            case rel => exact HR.out
            case measure => (simp [intOf] <;> omega)
          · obtain rfl : j = l.xs.length := by omega
            have hd : decide ((l.xs.length : Int) < (l.xs.length : Int)) = false := by simp
            rw [List.take_length] at hA
            have HR := Lib.hid (HNX.out wr hA hg)
            clear hA hg HNX
            go_wp2
            go_roundw
            case rel => exact HR.out
            case measure => (simp [intOf] <;> omega)
      · have e1 : (l.k != 1) = true := by simp [h1]
        have HR := Lib.hid (show BARel c w (.int .i64 ((k : Int) + 1)) W from ⟨k + 1, by go_num, by omega, by rw [HTK.out, atomLit, if_neg h1]; exact HA3.out, grown_step HGW.out (grown_of_below HB3.out _)⟩)
        clear h1
        go_wp2
        go_roundw
        case rel => exact HR.out
        case measure => (simp [intOf] <;> omega)
    · obtain rfl : k = c.u.bd.length := by omega
      have hd : decide ((c.u.bd.length : Int) < (c.u.bd.length : Int)) = false := by simp
      rw [List.take_length] at hA
      have HP := Lib.hid (show BPost c (atomsB c.u.es c.u.bd) w (.returned (.tuple #[])) wr from ⟨rfl, hgw, hA⟩)
      clear hA hgw
      go_wp2
      go_end0
      exact HP.out

end Go.Proofs.YtilijbpbnlnhlaaGreat.Pr
