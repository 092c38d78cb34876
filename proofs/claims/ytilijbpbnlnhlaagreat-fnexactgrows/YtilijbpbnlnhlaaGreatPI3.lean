/-
  impl's putInBrackets, putOperand, given put.
-/
import Derived.Test.YtilijbpbnlnhlaaGreatPI2
namespace Go.Proofs.YtilijbpbnlnhlaaGreat.Pr
open Go Go.RowKit Go.Maps Go.WideMaps

theorem as_word_word (W : World) (v : Value) : (Instr.typeAssert (.iface 143 v) 94 143 true).run Tryz.prog W = .ok (.tuple #[v, .bool true]) W := by kernel_rfl
theorem as_word_pair (W : World) (v : Value) : (Instr.typeAssert (.iface 143 v) 94 148 true).run Tryz.prog W = .ok (.tuple #[.agg #[.string ⟨#[]⟩, .nilIface, .nilIface], .bool false]) W := by kernel_rfl
theorem as_con_con (W : World) (v : Value) : (Instr.typeAssert (.iface 146 v) 94 146 true).run Tryz.prog W = .ok (.tuple #[v, .bool true]) W := by kernel_rfl
theorem as_con_word (W : World) (v : Value) : (Instr.typeAssert (.iface 146 v) 94 143 true).run Tryz.prog W = .ok (.tuple #[.string ⟨#[]⟩, .bool false]) W := by kernel_rfl
theorem as_con_pair (W : World) (v : Value) : (Instr.typeAssert (.iface 146 v) 94 148 true).run Tryz.prog W = .ok (.tuple #[.agg #[.string ⟨#[]⟩, .nilIface, .nilIface], .bool false]) W := by kernel_rfl
theorem as_pair_pair (W : World) (v : Value) : (Instr.typeAssert (.iface 148 v) 94 148 true).run Tryz.prog W = .ok (.tuple #[v, .bool true]) W := by kernel_rfl
theorem as_pair_word (W : World) (v : Value) : (Instr.typeAssert (.iface 148 v) 94 143 true).run Tryz.prog W = .ok (.tuple #[.string ⟨#[]⟩, .bool false]) W := by kernel_rfl
theorem as_pair_con (W : World) (v : Value) : (Instr.typeAssert (.iface 148 v) 94 146 true).run Tryz.prog W = .ok (.tuple #[.agg #[.string ⟨#[]⟩, .slice none 0 0], .bool false]) W := by kernel_rfl
theorem as_atom_atom (W : World) (v : Value) : (Instr.typeAssert (.iface 139 v) 94 139 true).run Tryz.prog W = .ok (.tuple #[v, .bool true]) W := by kernel_rfl
theorem as_atom_word (W : World) (v : Value) : (Instr.typeAssert (.iface 139 v) 94 143 true).run Tryz.prog W = .ok (.tuple #[.string ⟨#[]⟩, .bool false]) W := by kernel_rfl
theorem as_atom_con (W : World) (v : Value) : (Instr.typeAssert (.iface 139 v) 94 146 true).run Tryz.prog W = .ok (.tuple #[.agg #[.string ⟨#[]⟩, .slice none 0 0], .bool false]) W := by kernel_rfl
theorem as_atom_pair (W : World) (v : Value) : (Instr.typeAssert (.iface 139 v) 94 148 true).run Tryz.prog W = .ok (.tuple #[.agg #[.string ⟨#[]⟩, .nilIface, .nilIface], .bool false]) W := by kernel_rfl
theorem as_cmp_cmp (W : World) (v : Value) : (Instr.typeAssert (.iface 141 v) 94 141 true).run Tryz.prog W = .ok (.tuple #[v, .bool true]) W := by kernel_rfl
theorem as_cmp_word (W : World) (v : Value) : (Instr.typeAssert (.iface 141 v) 94 143 true).run Tryz.prog W = .ok (.tuple #[.string ⟨#[]⟩, .bool false]) W := by kernel_rfl
theorem as_cmp_con (W : World) (v : Value) : (Instr.typeAssert (.iface 141 v) 94 146 true).run Tryz.prog W = .ok (.tuple #[.agg #[.string ⟨#[]⟩, .slice none 0 0], .bool false]) W := by kernel_rfl
theorem as_cmp_pair (W : World) (v : Value) : (Instr.typeAssert (.iface 141 v) 94 148 true).run Tryz.prog W = .ok (.tuple #[.agg #[.string ⟨#[]⟩, .nilIface, .nilIface], .bool false]) W := by kernel_rfl
theorem as_cmp_atom (W : World) (v : Value) : (Instr.typeAssert (.iface 141 v) 94 139 true).run Tryz.prog W = .ok (.tuple #[.agg #[.string ⟨#[]⟩, .string ⟨#[]⟩, .slice none 0 0], .bool false]) W := by kernel_rfl
theorem as_rule_rule (W : World) (v : Value) : (Instr.typeAssert (.iface 116 v) 94 116 true).run Tryz.prog W = .ok (.tuple #[v, .bool true]) W := by kernel_rfl
theorem as_rule_word (W : World) (v : Value) : (Instr.typeAssert (.iface 116 v) 94 143 true).run Tryz.prog W = .ok (.tuple #[.string ⟨#[]⟩, .bool false]) W := by kernel_rfl
theorem as_rule_con (W : World) (v : Value) : (Instr.typeAssert (.iface 116 v) 94 146 true).run Tryz.prog W = .ok (.tuple #[.agg #[.string ⟨#[]⟩, .slice none 0 0], .bool false]) W := by kernel_rfl
theorem as_rule_pair (W : World) (v : Value) : (Instr.typeAssert (.iface 116 v) 94 148 true).run Tryz.prog W = .ok (.tuple #[.agg #[.string ⟨#[]⟩, .nilIface, .nilIface], .bool false]) W := by kernel_rfl
theorem as_rule_atom (W : World) (v : Value) : (Instr.typeAssert (.iface 116 v) 94 139 true).run Tryz.prog W = .ok (.tuple #[.agg #[.string ⟨#[]⟩, .string ⟨#[]⟩, .slice none 0 0], .bool false]) W := by kernel_rfl
theorem as_rule_cmp (W : World) (v : Value) : (Instr.typeAssert (.iface 116 v) 94 141 true).run Tryz.prog W = .ok (.tuple #[.agg #[.string ⟨#[]⟩, .nilIface, .nilIface], .bool false]) W := by kernel_rfl
theorem as_type_type (W : World) (v : Value) : (Instr.typeAssert (.iface 151 v) 94 151 true).run Tryz.prog W = .ok (.tuple #[v, .bool true]) W := by kernel_rfl
theorem as_type_word (W : World) (v : Value) : (Instr.typeAssert (.iface 151 v) 94 143 true).run Tryz.prog W = .ok (.tuple #[.string ⟨#[]⟩, .bool false]) W := by kernel_rfl
theorem as_type_con (W : World) (v : Value) : (Instr.typeAssert (.iface 151 v) 94 146 true).run Tryz.prog W = .ok (.tuple #[.agg #[.string ⟨#[]⟩, .slice none 0 0], .bool false]) W := by kernel_rfl
theorem as_type_pair (W : World) (v : Value) : (Instr.typeAssert (.iface 151 v) 94 148 true).run Tryz.prog W = .ok (.tuple #[.agg #[.string ⟨#[]⟩, .nilIface, .nilIface], .bool false]) W := by kernel_rfl
theorem as_type_atom (W : World) (v : Value) : (Instr.typeAssert (.iface 151 v) 94 139 true).run Tryz.prog W = .ok (.tuple #[.agg #[.string ⟨#[]⟩, .string ⟨#[]⟩, .slice none 0 0], .bool false]) W := by kernel_rfl
theorem as_type_cmp (W : World) (v : Value) : (Instr.typeAssert (.iface 151 v) 94 141 true).run Tryz.prog W = .ok (.tuple #[.agg #[.string ⟨#[]⟩, .nilIface, .nilIface], .bool false]) W := by kernel_rfl
theorem as_type_rule (W : World) (v : Value) : (Instr.typeAssert (.iface 151 v) 94 116 true).run Tryz.prog W = .ok (.tuple #[.agg #[.nilIface, .slice none 0 0], .bool false]) W := by kernel_rfl
theorem as_rel_rel (W : World) (v : Value) : (Instr.typeAssert (.iface 153 v) 94 153 true).run Tryz.prog W = .ok (.tuple #[v, .bool true]) W := by kernel_rfl
theorem as_rel_word (W : World) (v : Value) : (Instr.typeAssert (.iface 153 v) 94 143 true).run Tryz.prog W = .ok (.tuple #[.string ⟨#[]⟩, .bool false]) W := by kernel_rfl
theorem as_rel_con (W : World) (v : Value) : (Instr.typeAssert (.iface 153 v) 94 146 true).run Tryz.prog W = .ok (.tuple #[.agg #[.string ⟨#[]⟩, .slice none 0 0], .bool false]) W := by kernel_rfl
theorem as_rel_pair (W : World) (v : Value) : (Instr.typeAssert (.iface 153 v) 94 148 true).run Tryz.prog W = .ok (.tuple #[.agg #[.string ⟨#[]⟩, .nilIface, .nilIface], .bool false]) W := by kernel_rfl
theorem as_rel_atom (W : World) (v : Value) : (Instr.typeAssert (.iface 153 v) 94 139 true).run Tryz.prog W = .ok (.tuple #[.agg #[.string ⟨#[]⟩, .string ⟨#[]⟩, .slice none 0 0], .bool false]) W := by kernel_rfl
theorem as_rel_cmp (W : World) (v : Value) : (Instr.typeAssert (.iface 153 v) 94 141 true).run Tryz.prog W = .ok (.tuple #[.agg #[.string ⟨#[]⟩, .nilIface, .nilIface], .bool false]) W := by kernel_rfl
theorem as_rel_rule (W : World) (v : Value) : (Instr.typeAssert (.iface 153 v) 94 116 true).run Tryz.prog W = .ok (.tuple #[.agg #[.nilIface, .slice none 0 0], .bool false]) W := by kernel_rfl
theorem as_rel_type (W : World) (v : Value) : (Instr.typeAssert (.iface 153 v) 94 151 true).run Tryz.prog W = .ok (.tuple #[.agg #[.string ⟨#[]⟩, .slice none 0 0], .bool false]) W := by kernel_rfl

set_option maxRecDepth 100000 in
set_option maxHeartbeats 2000000 in
theorem brackets_of (ks : List Nd) (hks : ∀ n ∈ ks, PutOk n) (gp : Nat) (A : BA) (o : Option Nat) (S : Nat → Prop) (w : World) (a : Option Addr) (cap : Nat) (hp : Prn gp A o w) (hx : NodesIn S w ks a 0) (hf : Free S gp o w) (hn : ks.length ≤ 1048576) :
    Calls Tryz.prog 104 #[.pointer (some ⟨gp, 0, none⟩), .slice a ks.length cap] w fun e w' => e = .returned (.tuple #[]) ∧ ∃ o', Prn gp (A ++ (⟨#[40]⟩ ++ (txtL ⟨#[44, 32]⟩ false ks ++ ⟨#[41]⟩))) o' w' ∧ Step gp o o' w w' := by
  have HW := Lib.hid (write_made [⟨#[40]⟩] gp A o w hp (by simp) (by intro x hx; rw [List.mem_singleton.1 hx]; decide))
  have HL := Lib.hid (fun (o1 : Option Nat) (w1 : World) (h1 : Prn gp (A ++ ⟨#[40]⟩) o1 w1) (h2 : Step gp o o1 w w1) => putList_of ks hks gp (A ++ ⟨#[40]⟩) o1 S w1 a cap ⟨#[44, 32]⟩ h1 (NodesIn.kept (hf.same h2) (fun _ h => h) ks a 0 hx) (hf.step h2) hn (by decide))
  have HW2 := Lib.hid (fun (o1 : Option Nat) (w1 : World) (h1 : Prn gp (A ++ ⟨#[40]⟩ ++ txtL ⟨#[44, 32]⟩ false ks) o1 w1) => write_made [⟨#[41]⟩] gp _ o1 w1 h1 (by simp) (by intro x hx; rw [List.mem_singleton.1 hx]; decide))
  clear hp hx hf hks
  go_enter Tryz.func104, Tryz.ntmps104
  go_wp2_with fail
  refine HW.out.mono ?_
  rintro e1 w1 ⟨rfl, o1, h1, h2⟩
  have HL1 := Lib.hid (HL.out o1 w1 h1 h2)
  have H2 := Lib.hid h2
  clear HW HL h1 h2
  go_wp2_with fail
  refine HL1.out.mono ?_
  rintro e2 w2 ⟨rfl, o2, h3, h4⟩
  have HW3 := Lib.hid (HW2.out o2 w2 h3)
  have H4 := Lib.hid h4
  clear HW2 HL1 h3 h4
  go_wp2_with fail
  refine HW3.out.mono ?_
  rintro e3 w3 ⟨rfl, o3, h5, h6⟩
  have hfin : Prn gp (A ++ (⟨#[40]⟩ ++ (txtL ⟨#[44, 32]⟩ false ks ++ ⟨#[41]⟩))) o3 w3 := by
    have e : A ++ (⟨#[40]⟩ ++ (txtL ⟨#[44, 32]⟩ false ks ++ ⟨#[41]⟩)) = cat (A ++ ⟨#[40]⟩ ++ txtL ⟨#[44, 32]⟩ false ks) [⟨#[41]⟩] := by
      show _ = A ++ ⟨#[40]⟩ ++ txtL ⟨#[44, 32]⟩ false ks ++ ⟨#[41]⟩
      simp only [ByteArray.append_assoc]
    rw [e]; exact h5
  have HFIN := Lib.hid hfin
  have H6 := Lib.hid h6
  clear hfin h5 h6 HW3
  go_wp2
  go_end0
  exact ⟨rfl, o3, HFIN.out, H2.out.trans (H4.out.trans H6.out)⟩

/-- The text of one side of a pair. -/
def opTxt (n : Nd) : BA := if n.isPair then ⟨#[40]⟩ ++ (txt n ++ ⟨#[41]⟩) else txt n

set_option maxRecDepth 100000 in
set_option maxHeartbeats 2000000 in
theorem operand_of (n : Nd) (hn : PutOk n) (gp : Nat) (A : BA) (o : Option Nat) (S : Nat → Prop) (w : World) (v : Value) (hp : Prn gp A o w) (hv : NodeIn S w n v) (hf : Free S gp o w) :
    Calls Tryz.prog 105 #[.pointer (some ⟨gp, 0, none⟩), v] w fun e w' => e = .returned (.tuple #[]) ∧ ∃ o', Prn gp (A ++ opTxt n) o' w' ∧ Step gp o o' w w' := by
  have HB := Lib.hid (fun (W : World) (hW : Below w.heap.size w W) => by
    have hW2 := (Below.refl W.heap.size W).alloc (Nat.le_refl _) (.cells #[v] 94)
    have hf1 : Free (fun b => S b ∨ b = W.heap.size) gp o (W.alloc (.cells #[v] 94)) := by
      rintro b (hb | rfl)
      · obtain ⟨q1, q2, q3⟩ := hf b hb
        exact ⟨Nat.lt_of_lt_of_le q1 (Nat.le_trans hW.size hW2.size), q2, q3⟩
      · refine ⟨by simp, ?_, ?_⟩
        · have := hp.lt; have := hW.size; omega
        · intro h
          have := hp.own h
          have := hW.size
          omega
    have hx1 : NodesIn (fun b => S b ∨ b = W.heap.size) (W.alloc (.cells #[v] 94)) [n] (some ⟨W.heap.size, 0, none⟩) 0 := by
      rw [NodesIn]
      refine ⟨⟨_, _, v, rfl, .inr rfl, ?_, ?_⟩, by rw [NodesIn]; trivial⟩
      · rw [Nat.zero_add, cell_of_row _ _ _ _ _ _ (heap_alloc_new W _)]; rfl
      · exact NodeIn.kept (S := S) (w := w) (fun b hb => ((hW2.block b (Nat.lt_of_lt_of_le (hf b hb).1 hW.size)).trans (hW.block b (hf b hb).1))) (fun b hb => .inl hb) n v hv
    exact brackets_of [n] (by simpa using hn) gp A o (fun b => S b ∨ b = W.heap.size) (W.alloc (.cells #[v] 94)) (some ⟨W.heap.size, 0, none⟩) 1 ((hp.go hW).go hW2) hx1 hf1 (by simp))
  have HP := Lib.hid (fun (W : World) (hW : Below w.heap.size w W) => hn gp A o S W v (hp.go hW) (NodeIn.kept (fun b hb => hW.block b (hf b hb).1) (fun _ h => h) n v hv) (fun b hb => ⟨Nat.lt_of_lt_of_le (hf b hb).1 hW.size, (hf b hb).2⟩))
  have HV := Lib.hid hv
  cases n with
  | word s =>
    rw [NodeIn] at hv
    obtain ⟨rfl, _⟩ := hv
    have hb1 : Below w.heap.size w (w.alloc (.cells #[.string ⟨#[]⟩, .nilIface, .nilIface] 148)) := (Below.refl _ _).alloc (Nat.le_refl _) _
    have HB1 := Lib.hid (HP.out _ hb1)
    have HST := Lib.hid (Step.below (gp := gp) (o := o) hb1)
    have t1 := as_word_pair w (.string s)
    clear HB HP HV hp hf hn hb1
    go_enter Tryz.func105, Tryz.ntmps105
    go_wp2_with fail
    refine HB1.out.mono ?_
    rintro e1 w1 ⟨rfl, o1, h1, h2⟩
    have H1 := Lib.hid h1
    have H2 := Lib.hid h2
    clear h1 h2 HB1 t1
    go_wp2
    go_end0
    exact ⟨rfl, o1, H1.out, HST.out.trans H2.out⟩
  | con s ks =>
    rw [NodeIn] at hv
    obtain ⟨a, c, rfl, _⟩ := hv
    have hb1 : Below w.heap.size w (w.alloc (.cells #[.string ⟨#[]⟩, .nilIface, .nilIface] 148)) := (Below.refl _ _).alloc (Nat.le_refl _) _
    have HB1 := Lib.hid (HP.out _ hb1)
    have HST := Lib.hid (Step.below (gp := gp) (o := o) hb1)
    have t1 := as_con_pair w (.agg #[.string s, .slice a ks.length c])
    clear HB HP HV hp hf hn hb1
    go_enter Tryz.func105, Tryz.ntmps105
    go_wp2_with fail
    refine HB1.out.mono ?_
    rintro e1 w1 ⟨rfl, o1, h1, h2⟩
    have H1 := Lib.hid h1
    have H2 := Lib.hid h2
    clear h1 h2 HB1 t1
    go_wp2
    go_end0
    exact ⟨rfl, o1, H1.out, HST.out.trans H2.out⟩
  | pair s l r =>
    rw [NodeIn] at hv
    obtain ⟨vl, vr, rfl, _⟩ := hv
    rename_i hq
    obtain ⟨tl, xl, rfl⟩ := hq.2.1.shape
    obtain ⟨tr, xr, rfl⟩ := hq.2.2.shape
    have hb1 : Below w.heap.size w (w.alloc (.cells #[.string s, .iface tl xl, .iface tr xr] 148)) := (Below.refl _ _).alloc (Nat.le_refl _) _
    have HB1 := Lib.hid (HB.out _ hb1)
    have HST := Lib.hid (Step.below (gp := gp) (o := o) hb1)
    have t1 := as_pair_pair w (.agg #[.string s, .iface tl xl, .iface tr xr])
    clear HB HP HV hp hf hn hb1
    have hs2 : (w.alloc (.cells #[.string s, .iface tl xl, .iface tr xr] 148)).heap.size = w.heap.size + 1 := by simp
    rw [hs2] at HB1
    clear hs2
    go_enter Tryz.func105, Tryz.ntmps105
    go_wp2_with fail
    refine HB1.out.mono ?_
    rintro e1 w1 ⟨rfl, o1, h1, h2⟩
    have H1 := Lib.hid h1
    have H2 := Lib.hid h2
    clear h1 h2 HB1 t1
    go_wp2
    go_end0
    refine ⟨rfl, o1, ?_, HST.out.trans ((Step.alloc gp o _ _).trans H2.out)⟩
    have e : opTxt (.pair s l r) = ⟨#[40]⟩ ++ (txtL ⟨#[44, 32]⟩ false [.pair s l r] ++ ⟨#[41]⟩) := by
      unfold opTxt
      rw [txtL, txtL]
      simp [Nd.isPair, ba_empty, empty_ba]
    rw [e]
    exact H1.out
  | atom p s ks =>
    rw [NodeIn] at hv
    obtain ⟨a, c, rfl, _⟩ := hv
    have hb1 : Below w.heap.size w (w.alloc (.cells #[.string ⟨#[]⟩, .nilIface, .nilIface] 148)) := (Below.refl _ _).alloc (Nat.le_refl _) _
    have HB1 := Lib.hid (HP.out _ hb1)
    have HST := Lib.hid (Step.below (gp := gp) (o := o) hb1)
    have t1 := as_atom_pair w (.agg #[.string p, .string s, .slice a ks.length c])
    clear HB HP HV hp hf hn hb1
    go_enter Tryz.func105, Tryz.ntmps105
    go_wp2_with fail
    refine HB1.out.mono ?_
    rintro e1 w1 ⟨rfl, o1, h1, h2⟩
    have H1 := Lib.hid h1
    have H2 := Lib.hid h2
    clear h1 h2 HB1 t1
    go_wp2
    go_end0
    exact ⟨rfl, o1, H1.out, HST.out.trans H2.out⟩
  | cmp s l r =>
    rw [NodeIn] at hv
    obtain ⟨vl, vr, rfl, _⟩ := hv
    have hb1 : Below w.heap.size w (w.alloc (.cells #[.string ⟨#[]⟩, .nilIface, .nilIface] 148)) := (Below.refl _ _).alloc (Nat.le_refl _) _
    have HB1 := Lib.hid (HP.out _ hb1)
    have HST := Lib.hid (Step.below (gp := gp) (o := o) hb1)
    have t1 := as_cmp_pair w (.agg #[.string s, vl, vr])
    clear HB HP HV hp hf hn hb1
    go_enter Tryz.func105, Tryz.ntmps105
    go_wp2_with fail
    refine HB1.out.mono ?_
    rintro e1 w1 ⟨rfl, o1, h1, h2⟩
    have H1 := Lib.hid h1
    have H2 := Lib.hid h2
    clear h1 h2 HB1 t1
    go_wp2
    go_end0
    exact ⟨rfl, o1, H1.out, HST.out.trans H2.out⟩
  | rule h b =>
    rw [NodeIn] at hv
    obtain ⟨vh, a, c, rfl, _⟩ := hv
    have hb1 : Below w.heap.size w (w.alloc (.cells #[.string ⟨#[]⟩, .nilIface, .nilIface] 148)) := (Below.refl _ _).alloc (Nat.le_refl _) _
    have HB1 := Lib.hid (HP.out _ hb1)
    have HST := Lib.hid (Step.below (gp := gp) (o := o) hb1)
    have t1 := as_rule_pair w (.agg #[vh, .slice a b.length c])
    clear HB HP HV hp hf hn hb1
    go_enter Tryz.func105, Tryz.ntmps105
    go_wp2_with fail
    refine HB1.out.mono ?_
    rintro e1 w1 ⟨rfl, o1, h1, h2⟩
    have H1 := Lib.hid h1
    have H2 := Lib.hid h2
    clear h1 h2 HB1 t1
    go_wp2
    go_end0
    exact ⟨rfl, o1, H1.out, HST.out.trans H2.out⟩
  | type s cs =>
    rw [NodeIn] at hv
    obtain ⟨a, c, rfl, _⟩ := hv
    have hb1 : Below w.heap.size w (w.alloc (.cells #[.string ⟨#[]⟩, .nilIface, .nilIface] 148)) := (Below.refl _ _).alloc (Nat.le_refl _) _
    have HB1 := Lib.hid (HP.out _ hb1)
    have HST := Lib.hid (Step.below (gp := gp) (o := o) hb1)
    have t1 := as_type_pair w (.agg #[.string s, .slice a cs.length c])
    clear HB HP HV hp hf hn hb1
    go_enter Tryz.func105, Tryz.ntmps105
    go_wp2_with fail
    refine HB1.out.mono ?_
    rintro e1 w1 ⟨rfl, o1, h1, h2⟩
    have H1 := Lib.hid h1
    have H2 := Lib.hid h2
    clear h1 h2 HB1 t1
    go_wp2
    go_end0
    exact ⟨rfl, o1, H1.out, HST.out.trans H2.out⟩
  | rel n m =>
    rw [NodeIn] at hv
    obtain ⟨vn, rfl, _⟩ := hv
    have hb1 : Below w.heap.size w (w.alloc (.cells #[.string ⟨#[]⟩, .nilIface, .nilIface] 148)) := (Below.refl _ _).alloc (Nat.le_refl _) _
    have HB1 := Lib.hid (HP.out _ hb1)
    have HST := Lib.hid (Step.below (gp := gp) (o := o) hb1)
    have t1 := as_rel_pair w (.agg #[vn, .string m])
    clear HB HP HV hp hf hn hb1
    go_enter Tryz.func105, Tryz.ntmps105
    go_wp2_with fail
    refine HB1.out.mono ?_
    rintro e1 w1 ⟨rfl, o1, h1, h2⟩
    have H1 := Lib.hid h1
    have H2 := Lib.hid h2
    clear h1 h2 HB1 t1
    go_wp2
    go_end0
    exact ⟨rfl, o1, H1.out, HST.out.trans H2.out⟩

end Go.Proofs.YtilijbpbnlnhlaaGreat.Pr
