/-
  impl's lists of nodes that are made anew: MkRow; wordNodes, modeText.
-/
import Derived.Test.YtdcfhmbnbfmnbaaPIA
import Derived.Test.YtdcfhmbnbfmnbaaPTp
namespace Go.Proofs.Ytdcfhmbnbfmnbaa.Pr
open Go Go.RowKit Go.Maps Go.WideMaps

/-- A list of nodes, all of it at B or above. -/
def MkRow (B : Nat) (ns : List Nd) (v : Value) (w : World) : Prop :=
  ∃ (cl : List Value) (N : Nat → Prop), w.ownsRow B 78 1 v ns.length cl ∧ (∀ j (h : j < ns.length), ∃ u : Value, cl[j]? = some u ∧ NodeIn N w ns[j] u) ∧ ∀ b, N b → B ≤ b ∧ b < w.heap.size ∧ v.ownBlock ≠ some b

theorem MkRow.nil (B : Nat) (w : World) : MkRow B [] (.slice none 0 0) w := ⟨[], fun _ => False, World.ownsRow_nil w _ _ _, fun j h => by simp at h, fun b h => h.elim⟩

theorem MkRow.shape {B : Nat} {ns : List Nd} {v : Value} {w : World} (h : MkRow B ns v w) : ∃ a c, v = .slice a ns.length c := by
  obtain ⟨cl, N, h1, _⟩ := h
  exact owns_shape h1

theorem MkRow.below {B : Nat} {ns : List Nd} {v : Value} {w w' : World} (h : MkRow B ns v w) (hb : Below w.heap.size w w') : MkRow B ns v w' := by
  obtain ⟨cl, N, h1, h2, h3⟩ := h
  refine ⟨cl, N, row_kept h1 hb, fun j hj => ?_, fun b hN => ⟨(h3 b hN).1, Nat.lt_of_lt_of_le (h3 b hN).2.1 hb.size, (h3 b hN).2.2⟩⟩
  obtain ⟨u, hu, hn⟩ := h2 j hj
  exact ⟨u, hu, NodeIn.kept (Same.below (fun b h => (h3 b h).2.1) hb) (fun _ h => h) _ _ hn⟩

theorem MkRow.ge {B : Nat} {ns : List Nd} {v : Value} {w : World} (h : MkRow B ns v w) {g : Nat} (hg : v.ownBlock = some g) : B ≤ g ∧ g < w.heap.size := by
  obtain ⟨cl, N, h1, _⟩ := h
  exact own_lt h1 hg

theorem MkRow.push {B : Nat} {ns : List Nd} {v : Value} {w : World} (h : MkRow B ns v w) (n : Nd) (t : TypeId) (x : Value) (M : Nat → Prop) (hM : NodeIn M w n (.iface t x)) (hMs : ∀ b, M b → B ≤ b ∧ b < w.heap.size ∧ v.ownBlock ≠ some b) (hn : ns.length ≤ 1048576) (hB : B ≤ w.heap.size) (w0 : World) (h0 : w0.heap.size = B) (hb0 : Below w0.heap.size w0 w) :
    ∃ (g' cap' : Nat) (w3 : World), (∀ ty, (Builtin.append_ #[70, 70] ty #[v, .slice (some ⟨w.heap.size, 0, none⟩) 1 1]).run Try.prog (w.alloc (.cells #[.iface t x] 78)) = .ok (.slice (some ⟨g', 0, none⟩) (ns.length + 1) cap') w3) ∧ MkRow B (ns ++ [n]) (.slice (some ⟨g', 0, none⟩) (ns.length + 1) cap') w3 ∧ Below w0.heap.size w0 w3 := by
  obtain ⟨cl, N, h1, h2, h3⟩ := h
  have hb3 : Below w.heap.size w (w.alloc (.cells #[.iface t x] 78)) := (Below.refl _ _).alloc (Nat.le_refl _) _
  obtain ⟨g', cap', w3, hrun, hown3, hgr3, hat⟩ := append_node (w.alloc (.cells #[.iface t x] 78)) B v ns.length cl (h1.alloc _) t x w.heap.size (heap_alloc_new w _) hn (by simp; omega)
  have hsm : ∀ b, b < w.heap.size → v.ownBlock ≠ some b → w3.heap[b]? = w.heap[b]? := fun b hb hne => by
    rw [hgr3.block b (by have := hb3.size; omega) (fun e => hne e.symm), hb3.block b hb]
  have hsz : w.heap.size + 1 ≤ w3.heap.size := by have := hgr3.size; simp at this; omega
  have hcl : cl.length = ns.length := by have := h1.1; omega
  refine ⟨g', cap', w3, hrun, ⟨cl ++ [.iface t x], fun b => N b ∨ M b, by rw [List.length_append]; exact hown3, ?_, ?_⟩, ?_⟩
  · intro j hj
    rw [List.length_append, List.length_singleton] at hj
    by_cases hjk : j < ns.length
    · obtain ⟨u, hu, hN⟩ := h2 j hjk
      refine ⟨u, by rw [List.getElem?_append_left (by omega)]; exact hu, ?_⟩
      rw [List.getElem_append_left hjk]
      exact NodeIn.kept (fun b hb => hsm b (h3 b hb).2.1 (h3 b hb).2.2) (fun _ h => .inl h) _ _ hN
    · obtain rfl : j = ns.length := by omega
      refine ⟨.iface t x, by rw [List.getElem?_append_right (by omega), hcl, Nat.sub_self]; rfl, ?_⟩
      rw [List.getElem_append_right (Nat.le_refl _)]
      simp only [Nat.sub_self, List.getElem_cons_zero]
      exact NodeIn.kept (fun b hb => hsm b (hMs b hb).2.1 (hMs b hb).2.2) (fun _ h => .inr h) _ _ hM
  · have key : ∀ b, B ≤ b ∧ b < w.heap.size ∧ v.ownBlock ≠ some b → B ≤ b ∧ b < w3.heap.size ∧ (Value.slice (some ⟨g', 0, none⟩) (ns.length + 1) cap').ownBlock ≠ some b := by
      rintro b ⟨q1, q2, q3⟩
      refine ⟨q1, by omega, fun he => ?_⟩
      simp only [Value.ownBlock, Option.some.injEq] at he
      subst he
      rcases hat with h | h
      · exact q3 h
      · simp at h; omega
    rintro b (hb | hb)
    · exact key b (h3 b hb)
    · exact key b (hMs b hb)
  · refine ⟨hgr3.os.trans (hb3.os.trans hb0.os), hgr3.tape.trans (hb3.tape.trans hb0.tape), hgr3.output.trans (hb3.output.trans hb0.output), by have := hb0.size; omega, fun q hq => ?_⟩
    rw [hsm q (by have := hb0.size; omega) (fun e => by have := (own_lt h1 e).1; omega)]
    exact hb0.block q hq

theorem MkRow.fin {B : Nat} {ns : List Nd} {a : Option Addr} {n c : Nat} {w : World} (h : MkRow B ns (.slice a n c) w) : NodesIn (Seg B w.heap.size) w ns a 0 := by
  obtain ⟨cl, N, h1, h2, h3⟩ := h
  refine NodesIn.of _ _ _ (fun j hj => ?_)
  obtain ⟨v, hv, hn'⟩ := h2 j hj
  obtain ⟨g, c', hv', hg1, hg2⟩ := h1.form (by omega)
  simp only [Value.slice.injEq] at hv'
  obtain ⟨rfl, rfl, rfl⟩ := hv'
  refine ⟨g, 0, v, rfl, ⟨hg1, hg2⟩, ?_, NodeIn.kept (Same.refl _ _) (fun b hb => ⟨(h3 b hb).1, (h3 b hb).2.1⟩) _ _ hn'⟩
  rw [Nat.zero_add, Nat.zero_add, h1.cellAt j (by omega)]
  exact hv

def WNRel (xs : List BA) (w : World) (v5 v10 : Value) (wr : World) : Prop :=
  ∃ k : Nat, v10 = .int .i64 (k : Int) ∧ k ≤ xs.length ∧ MkRow w.heap.size ((xs.take k).map Nd.word) v5 wr ∧ Below w.heap.size w wr

set_option maxRecDepth 100000 in
set_option maxHeartbeats 4000000 in
theorem wordNodes_any (xs : List BA) (a : Option Addr) (cap : Nat) (S : Nat → Prop) (w : World) (hx : TxtsIn S w a xs) (hS : ∀ b, S b → b < w.heap.size) (hl : ∀ x ∈ xs, x.size ≤ 1048576) (hn : xs.length ≤ 1048576) :
    Calls Try.prog 68 #[.slice a xs.length cap] w fun e w' => (∃ (a' : Option Addr) (c' : Nat), e = .returned (.slice a' xs.length c') ∧ NodesIn (Seg w.heap.size w'.heap.size) w' (xs.map Nd.word) a' 0) ∧ Below w.heap.size w w' := by
  have HX := Lib.hid hx
  have HS := Lib.hid hS
  have HL := Lib.hid hl
  clear hx hS hl
  go_enter Try.func68, Try.ntmps68
  go_wp2
  go_loopw [3, 8] (fun v3 v8 wr => WNRel xs w v3 v8 wr) (fun _ v8 _ => (xs.length - (intOf v8).toNat))
  case atStart => exact ⟨0, rfl, Nat.zero_le _, MkRow.nil _ _, Below.refl _ _⟩
  case round =>
    obtain ⟨k, rfl, hk, hm, hb⟩ := hrel
    have hlen : ((xs.take k).map Nd.word).length = k := by simp; omega
    obtain ⟨aL, cL, rfl⟩ := hm.shape
    by_cases hlt : k < xs.length
    · obtain ⟨b, off, rfl, hSb, hcc⟩ := HX.out.kept (Same.below HS.out hb) k hlt
      have hxl := HL.out _ (List.getElem_mem hlt)
      have htk : (xs.take (k + 1)).map Nd.word = (xs.take k).map Nd.word ++ [Nd.word xs[k]] := by rw [List.take_succ_eq_append_getElem hlt, List.map_append]; rfl
      obtain ⟨x, hx⟩ : ∃ x, xs[k] = x := ⟨_, rfl⟩
      rw [hx] at hcc hxl htk
      obtain ⟨g', cap', w3, hrun, hm3, hb3⟩ := hm.push (Nd.word x) 110 (.string x) (fun _ => False) (by rw [NodeIn]; exact ⟨rfl, hxl⟩) (fun b h => h.elim) (by omega) hb.size w rfl hb
      rw [← htk] at hm3
      rw [hlen] at hrun hm3 ⊢
      have HN := Lib.hid (show WNRel xs w (.slice (some ⟨g', 0, none⟩) (k + 1) cap') (.int .i64 ((k : Int) + 1)) w3 from ⟨k + 1, by go_num, by omega, hm3, hb3⟩)
      have HRUN := Lib.hid hrun
      clear hm hb hrun hm3 hb3 hSb hxl htk hx hlen
      go_wp2_with (first
        | (at_builtin
           refine wpList_append_run rfl (.tmp 12) (.tmp 15) _ rfl rfl rfl HRUN.out ?_))
      go_roundw
      case rel => exact HN.out
      case measure => simp [intOf]; omega
    · obtain rfl : k = xs.length := by omega
      rw [List.take_length] at hm hlen
      have hm' := hm.fin
      rw [List.take_length, hlen]
      have HP := Lib.hid (show (∃ (a' : Option Addr) (c' : Nat), Ending.returned (.slice aL xs.length cL) = .returned (.slice a' xs.length c') ∧ NodesIn (Seg w.heap.size wr.heap.size) wr (xs.map Nd.word) a' 0) ∧ Below w.heap.size w wr from ⟨⟨aL, cL, rfl, hm'⟩, hb⟩)
      clear hm hb hm' hlen
      go_wp2
      go_ret
      exact HP.out

def modeTxt (m : Int) : BA := if m = 0 then ⟨#[]⟩ else if m = 1 then ⟨#[32, 105, 110, 112, 117, 116]⟩ else if m = 2 then ⟨#[32, 111, 117, 116, 112, 117, 116]⟩ else if m = 3 then ⟨#[32, 105, 110, 108, 105, 110, 101]⟩ else ⟨#[]⟩
def modeOk (m : Int) : Bool := decide (0 ≤ m) && decide (m ≤ 3)
theorem modeTxt_size (m : Int) : (modeTxt m).size ≤ 7 := by
  unfold modeTxt
  repeat' split
  all_goals decide

set_option maxRecDepth 100000 in
set_option maxHeartbeats 2000000 in
theorem modeText_any (m : Int) (w : World) : Calls Try.prog 69 #[.int .i64 m] w fun e w' => e = .returned (.tuple #[.string (modeTxt m), .bool (modeOk m)]) ∧ w' = w := by
  by_cases h0 : m = 0
  · subst h0
    go_enter Try.func69, Try.ntmps69
    go_wp2
    go_ret2
    exact ⟨rfl, rfl⟩
  by_cases h1 : m = 1
  · subst h1
    go_enter Try.func69, Try.ntmps69
    go_wp2
    go_ret2
    exact ⟨rfl, rfl⟩
  by_cases h2 : m = 2
  · subst h2
    go_enter Try.func69, Try.ntmps69
    go_wp2
    go_ret2
    exact ⟨rfl, rfl⟩
  by_cases h3 : m = 3
  · subst h3
    go_enter Try.func69, Try.ntmps69
    go_wp2
    go_ret2
    exact ⟨rfl, rfl⟩
  have e0 : (m == 0) = false := by simpa using h0
  have e1 : (m == 1) = false := by simpa using h1
  have e2 : (m == 2) = false := by simpa using h2
  have e3 : (m == 3) = false := by simpa using h3
  have HT := Lib.hid (show modeTxt m = ⟨#[]⟩ by unfold modeTxt; rw [if_neg h0, if_neg h1, if_neg h2, if_neg h3])
  have HO := Lib.hid (show modeOk m = false by unfold modeOk; simp; omega)
  clear h0 h1 h2 h3
  go_enter Try.func69, Try.ntmps69
  go_wp2
  go_ret2
  rw [HT.out, HO.out]
  exact ⟨rfl, rfl⟩

def relNd (x : Rd) : Nd := .rel (.atom ⟨#[]⟩ x.s (x.ts.map Nd.word)) (modeTxt x.m)
def NLPost (n : Nd) (good : Bool) (w : World) (e : Ending) (w' : World) : Prop :=
  ((∃ v : Value, e = .returned (.tuple #[v, .bool true]) ∧ good = true ∧ NodeIn (Seg w.heap.size w'.heap.size) w' n v) ∨ (e = .returned (.tuple #[.nilIface, .bool false]) ∧ good = false)) ∧ Below w.heap.size w w'

set_option maxRecDepth 100000 in
set_option maxHeartbeats 4000000 in
theorem newRel_any (x : Rd) (vs : List Value) (S : Nat → Prop) (w : World) (hF : FRd S w vs x) (hS : ∀ b, S b → b < w.heap.size) (hw : x.wt ≤ 1048576) : Calls Try.prog 47 #[.agg vs.toArray] w (NLPost (relNd x) (modeOk x.m) w) := by
  obtain ⟨a, c, rfl, r0⟩ := hF
  have hb0 : Below w.heap.size w (w.alloc (.cells #[.string x.s, .slice a x.ts.length c, .int .i64 x.m] 66)) := (Below.refl _ _).alloc (Nat.le_refl _) _
  have k0 := heap_alloc_new w (.cells #[.string x.s, .slice a x.ts.length c, .int .i64 x.m] 66)
  obtain ⟨W0, hW0⟩ : ∃ W0, w.alloc (.cells #[.string x.s, .slice a x.ts.length c, .int .i64 x.m] 66) = W0 := ⟨_, rfl⟩
  rw [hW0] at hb0 k0
  have q0 := cell_of_row _ w.heap.size 0 _ _ _ k0
  have q1 := cell_of_row _ w.heap.size 1 _ _ _ k0
  have q2 := cell_of_row _ w.heap.size 2 _ _ _ k0
  simp only [List.getElem?_toArray, List.getElem?_cons_zero, List.getElem?_cons_succ] at q0 q1 q2
  have hsl : x.s.size ≤ 1048576 := by have := hw; unfold Rd.wt at this; omega
  have hnl : x.ts.length ≤ 1048576 := by have := hw; unfold Rd.wt wtStringS at this; omega
  have htl : ∀ y ∈ x.ts, y.size ≤ 1048576 := fun y hy => by
    have h1 := wsum_mem ByteArray.size hy
    have := hw
    unfold Rd.wt wtStringS at this
    omega
  have HM := Lib.hid (modeText_any x.m W0)
  have HW := Lib.hid (fun (w' : World) (h : Below W0.heap.size W0 w') => wordNodes_any x.ts a c S w' (r0.kept (Same.below hS (below_step hb0 h))) (fun b h' => Nat.lt_of_lt_of_le (hS b h') (Nat.le_trans hb0.size h.size)) htl hnl)
  have HB0 := Lib.hid hb0
  have HSL := Lib.hid hsl
  have HNL := Lib.hid hnl
  have hg1 : w.heap.size < W0.heap.size := lt_of_block k0
  clear r0 hb0 k0 htl hw hsl hnl hS
  go_enter Try.func47, Try.ntmps47
  go_wp2_with fail
  refine HM.out.mono ?_
  rintro e w1 ⟨rfl, rfl⟩
  cases hmo : modeOk x.m with
  | false =>
    have HP := Lib.hid (show NLPost (relNd x) (modeOk x.m) w (.returned (.tuple #[.nilIface, .bool false])) w1 from ⟨.inr ⟨rfl, hmo⟩, HB0.out⟩)
    go_wp2
    go_ret2
    exact HP.out
  | true =>
    have hB0 : Below w1.heap.size w1 w1 := Below.refl _ _
    have HMO := Lib.hid hmo
    clear hmo HM
    go_wp2
    go_region_held3 (fun w' => w'.cell? ⟨w.heap.size, 0, none⟩ = some (.string x.s) ∧ w'.cell? ⟨w.heap.size, 1, none⟩ = some (.slice a x.ts.length c) ∧ w'.cell? ⟨w.heap.size, 2, none⟩ = some (.int .i64 x.m) ∧ Below w1.heap.size w1 w')
      (refine ⟨?_, ?_, ?_, ?_⟩ <;> (first | assumption | (simp [*]; done) | (apply Below.drew; assumption)))
      (first
        | (go_at_call 68
           refine (HW.out _ (by first | assumption | (apply Below.drew; assumption))).mono ?_
           rintro e2 w2 ⟨⟨a', c', rfl, hN⟩, hb2⟩
           have hb2' : Below w1.heap.size w1 w2 := below_keep (by first | assumption | (apply Below.drew; assumption)) hb2
           have z0 := (hb2'.cell (p := ⟨w.heap.size, 0, none⟩) hg1).trans q0
           have z1 := (hb2'.cell (p := ⟨w.heap.size, 1, none⟩) hg1).trans q1
           have z2 := (hb2'.cell (p := ⟨w.heap.size, 2, none⟩) hg1).trans q2
           have HP := Lib.hid (fun (wf : World) (hh : wf.heap = w2.heap) (hbf : Below w1.heap.size w1 wf) => (show NLPost (relNd x) (modeOk x.m) w (.returned (.tuple #[.iface 125 (.agg #[.iface 117 (.agg #[.string ⟨#[]⟩, .string x.s, .slice a' x.ts.length c']), .string (modeTxt x.m)]), .bool true])) wf from ⟨.inl ⟨_, rfl, HMO.out, by
             have hms := modeTxt_size x.m
             have hsz := hb2.size
             unfold relNd
             rw [NodeIn]
             refine ⟨_, rfl, by omega, ?_⟩
             rw [NodeIn]
             refine ⟨a', c', by rw [List.length_map], by decide, HSL.out, by rw [List.length_map]; exact HNL.out, NodesIn.kept (fun b _ => by rw [hh]) (fun b h => ⟨Nat.le_trans (Nat.le_trans HB0.out.size (Below.size (by first | assumption | (apply Below.drew; assumption)))) h.1, by rw [hh]; exact h.2⟩) _ _ _ hN⟩⟩, below_step HB0.out hbf⟩))
           clear hb2 hN)
        | fail)
    go_wp2
    go_ret2
    exact HP.out _ rfl (by first | assumption | (apply Below.drew; assumption))

end Go.Proofs.Ytdcfhmbnbfmnbaa.Pr
