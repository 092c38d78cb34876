/-
  impl's put: whatever the node.
-/
import Derived.Test.YtilijbpbnlnhlaaGreatPI3
namespace Go.Proofs.YtilijbpbnlnhlaaGreat.Pr
open Go Go.RowKit Go.Maps Go.WideMaps

set_option maxRecDepth 100000 in
set_option maxHeartbeats 2000000 in
theorem put_word (s : BA)  : PutOk (.word s) := by
  intro gp A o S w v hp hv hf
  rw [NodeIn] at hv
  obtain ⟨rfl, hs⟩ := hv
  have hb0 : Below w.heap.size w w := Below.refl _ _
  have hst0 : Step gp o o w w := Step.below hb0
  have hp0 : Prn gp A o w := hp.go hb0
  have hgp := hp.lt
  have howl : ∀ k, o = some k → k < w.heap.size := fun k h => (hp.own h).2
  have t_word := as_word_word w (.string s)
  have HF := Lib.hid hf
  clear hf hp hb0 hgp howl
  go_enter Tryz.func82, Tryz.ntmps82
  have HC0 := Lib.hid (write_made [s] gp (A) o w hp0 (by simp) (by intro x hx; simp only [List.mem_cons, List.not_mem_nil, or_false] at hx; rcases hx with rfl <;> first | assumption | decide))
  go_wp2_with fail
  refine HC0.out.mono ?_
  rintro e0 w0 ⟨rfl, o0, hp0', hst0'⟩
  have hq0 := hst0.trans hst0'
  clear HC0 hst0'
  have hfin : Prn gp (A ++ txt (.word s)) o0 w0 := by
    have e : A ++ txt (.word s) = cat (A) [s] := by
      rw [txt]
      simp [cat]
    rw [e]
    exact hp0'
  have HFIN := Lib.hid hfin
  have HQ := Lib.hid hq0
  clear hfin
  go_wp2
  go_end0
  exact ⟨rfl, _, HFIN.out, HQ.out⟩

set_option maxRecDepth 100000 in
set_option maxHeartbeats 2000000 in
theorem put_pair (s : BA) (l r : Nd) (hl0 : PutOk l) (hr0 : PutOk r) : PutOk (.pair s l r) := by
  intro gp A o S w v hp hv hf
  rw [NodeIn] at hv
  obtain ⟨vl, vr, rfl, hs, hl, hr⟩ := hv
  obtain ⟨tl, xl, rfl⟩ := hl.shape
  obtain ⟨tr, xr, rfl⟩ := hr.shape
  have hb0 : Below w.heap.size w (w.alloc (.cells #[.string s, .iface tl xl, .iface tr xr] 148)) := (Below.refl _ _).alloc (Nat.le_refl _) _
  have K0 := heap_alloc_new w (.cells #[.string s, .iface tl xl, .iface tr xr] 148)
  have hst0 : Step gp o o w (w.alloc (.cells #[.string s, .iface tl xl, .iface tr xr] 148)) := Step.below hb0
  have hp0 : Prn gp A o (w.alloc (.cells #[.string s, .iface tl xl, .iface tr xr] 148)) := hp.go hb0
  have hgp := hp.lt
  have howl : ∀ k, o = some k → k < w.heap.size := fun k h => (hp.own h).2
  have hfb : Free (fun b => b = w.heap.size) gp o (w.alloc (.cells #[.string s, .iface tl xl, .iface tr xr] 148)) := by
    rintro b rfl
    exact ⟨by simp, by omega, fun h => by have := howl _ h; omega⟩
  obtain ⟨W0, hW0⟩ : ∃ W0, (w.alloc (.cells #[.string s, .iface tl xl, .iface tr xr] 148)) = W0 := ⟨_, rfl⟩
  rw [hW0] at hst0 hp0 K0 hfb
  have t_word := as_pair_word w (.agg #[.string s, .iface tl xl, .iface tr xr])
  have t_con := as_pair_con w (.agg #[.string s, .iface tl xl, .iface tr xr])
  have t_pair := as_pair_pair w (.agg #[.string s, .iface tl xl, .iface tr xr])
  have HK := Lib.hid K0
  have HFB := Lib.hid hfb
  have c0 := cell_of_row _ w.heap.size 0 _ _ _ K0
  have c1 := cell_of_row _ w.heap.size 1 _ _ _ K0
  have c2 := cell_of_row _ w.heap.size 2 _ _ _ K0
  simp only [List.getElem?_toArray, List.getElem?_cons_zero, List.getElem?_cons_succ] at c0 c1 c2
  have HF := Lib.hid hf
  clear hf hp hb0 hgp howl K0 hfb
  go_enter Tryz.func82, Tryz.ntmps82
  have HC0 := Lib.hid (operand_of l hl0 gp (A) o S W0 (.iface tl xl) hp0 (NodeIn.kept (HF.out.same hst0) (fun _ h => h) _ _ hl) (HF.out.step hst0))
  go_wp2_with fail
  refine HC0.out.mono ?_
  rintro e0 w0 ⟨rfl, o0, hp0', hst0'⟩
  have hq0 := hst0.trans hst0'
  clear c0 c1 c2
  have K0 := (HFB.out.same hst0' w.heap.size rfl).trans HK.out
  replace HFB := Lib.hid (HFB.out.step hst0')
  replace HK := Lib.hid K0
  have c0 := cell_of_row _ w.heap.size 0 _ _ _ K0
  have c1 := cell_of_row _ w.heap.size 1 _ _ _ K0
  have c2 := cell_of_row _ w.heap.size 2 _ _ _ K0
  simp only [List.getElem?_toArray, List.getElem?_cons_zero, List.getElem?_cons_succ] at c0 c1 c2
  clear K0
  clear HC0 hst0'
  have HC1 := Lib.hid (write_made [⟨#[32]⟩, s, ⟨#[32]⟩] gp ((A) ++ opTxt l) o0 w0 hp0' (by simp) (by intro x hx; simp only [List.mem_cons, List.not_mem_nil, or_false] at hx; rcases hx with rfl | rfl | rfl <;> first | assumption | decide))
  go_wp2_with fail
  refine HC1.out.mono ?_
  rintro e1 w1 ⟨rfl, o1, hp1', hst1'⟩
  have hq1 := hq0.trans hst1'
  clear c0 c1 c2
  have K1 := (HFB.out.same hst1' w.heap.size rfl).trans HK.out
  replace HFB := Lib.hid (HFB.out.step hst1')
  replace HK := Lib.hid K1
  have c0 := cell_of_row _ w.heap.size 0 _ _ _ K1
  have c1 := cell_of_row _ w.heap.size 1 _ _ _ K1
  have c2 := cell_of_row _ w.heap.size 2 _ _ _ K1
  simp only [List.getElem?_toArray, List.getElem?_cons_zero, List.getElem?_cons_succ] at c0 c1 c2
  clear K1
  clear HC1 hst1'
  have HC2 := Lib.hid (operand_of r hr0 gp (cat ((A) ++ opTxt l) [⟨#[32]⟩, s, ⟨#[32]⟩]) o1 S w1 (.iface tr xr) hp1' (NodeIn.kept (HF.out.same hq1) (fun _ h => h) _ _ hr) (HF.out.step hq1))
  go_wp2_with fail
  refine HC2.out.mono ?_
  rintro e2 w2 ⟨rfl, o2, hp2', hst2'⟩
  have hq2 := hq1.trans hst2'
  clear c0 c1 c2
  have K2 := (HFB.out.same hst2' w.heap.size rfl).trans HK.out
  replace HFB := Lib.hid (HFB.out.step hst2')
  replace HK := Lib.hid K2
  have c0 := cell_of_row _ w.heap.size 0 _ _ _ K2
  have c1 := cell_of_row _ w.heap.size 1 _ _ _ K2
  have c2 := cell_of_row _ w.heap.size 2 _ _ _ K2
  simp only [List.getElem?_toArray, List.getElem?_cons_zero, List.getElem?_cons_succ] at c0 c1 c2
  clear K2
  clear HC2 hst2'
  have hfin : Prn gp (A ++ txt (.pair s l r)) o2 w2 := by
    have e : A ++ txt (.pair s l r) = (cat ((A) ++ opTxt l) [⟨#[32]⟩, s, ⟨#[32]⟩]) ++ opTxt r := by
      rw [txt]
      simp [cat, opTxt, ByteArray.append_assoc]
    rw [e]
    exact hp2'
  have HFIN := Lib.hid hfin
  have HQ := Lib.hid hq2
  clear hfin
  go_wp2
  go_end0
  exact ⟨rfl, _, HFIN.out, HQ.out⟩

set_option maxRecDepth 100000 in
set_option maxHeartbeats 2000000 in
theorem put_cmp (s : BA) (l r : Nd) (hl0 : PutOk l) (hr0 : PutOk r) : PutOk (.cmp s l r) := by
  intro gp A o S w v hp hv hf
  rw [NodeIn] at hv
  obtain ⟨vl, vr, rfl, hs, hl, hr⟩ := hv
  obtain ⟨tl, xl, rfl⟩ := hl.shape
  obtain ⟨tr, xr, rfl⟩ := hr.shape
  have hb0 : Below w.heap.size w (w.alloc (.cells #[.string s, .iface tl xl, .iface tr xr] 141)) := (Below.refl _ _).alloc (Nat.le_refl _) _
  have K0 := heap_alloc_new w (.cells #[.string s, .iface tl xl, .iface tr xr] 141)
  have hst0 : Step gp o o w (w.alloc (.cells #[.string s, .iface tl xl, .iface tr xr] 141)) := Step.below hb0
  have hp0 : Prn gp A o (w.alloc (.cells #[.string s, .iface tl xl, .iface tr xr] 141)) := hp.go hb0
  have hgp := hp.lt
  have howl : ∀ k, o = some k → k < w.heap.size := fun k h => (hp.own h).2
  have hfb : Free (fun b => b = w.heap.size) gp o (w.alloc (.cells #[.string s, .iface tl xl, .iface tr xr] 141)) := by
    rintro b rfl
    exact ⟨by simp, by omega, fun h => by have := howl _ h; omega⟩
  obtain ⟨W0, hW0⟩ : ∃ W0, (w.alloc (.cells #[.string s, .iface tl xl, .iface tr xr] 141)) = W0 := ⟨_, rfl⟩
  rw [hW0] at hst0 hp0 K0 hfb
  have t_word := as_cmp_word w (.agg #[.string s, .iface tl xl, .iface tr xr])
  have t_con := as_cmp_con w (.agg #[.string s, .iface tl xl, .iface tr xr])
  have t_pair := as_cmp_pair w (.agg #[.string s, .iface tl xl, .iface tr xr])
  have t_atom := as_cmp_atom w (.agg #[.string s, .iface tl xl, .iface tr xr])
  have t_cmp := as_cmp_cmp w (.agg #[.string s, .iface tl xl, .iface tr xr])
  have HK := Lib.hid K0
  have HFB := Lib.hid hfb
  have c0 := cell_of_row _ w.heap.size 0 _ _ _ K0
  have c1 := cell_of_row _ w.heap.size 1 _ _ _ K0
  have c2 := cell_of_row _ w.heap.size 2 _ _ _ K0
  simp only [List.getElem?_toArray, List.getElem?_cons_zero, List.getElem?_cons_succ] at c0 c1 c2
  have HF := Lib.hid hf
  clear hf hp hb0 hgp howl K0 hfb
  go_enter Tryz.func82, Tryz.ntmps82
  have HC0 := Lib.hid (hl0 gp (A) o S W0 (.iface tl xl) hp0 (NodeIn.kept (HF.out.same hst0) (fun _ h => h) _ _ hl) (HF.out.step hst0))
  go_wp2_with fail
  refine HC0.out.mono ?_
  rintro e0 w0 ⟨rfl, o0, hp0', hst0'⟩
  have hq0 := hst0.trans hst0'
  clear c0 c1 c2
  have K0 := (HFB.out.same hst0' w.heap.size rfl).trans HK.out
  replace HFB := Lib.hid (HFB.out.step hst0')
  replace HK := Lib.hid K0
  have c0 := cell_of_row _ w.heap.size 0 _ _ _ K0
  have c1 := cell_of_row _ w.heap.size 1 _ _ _ K0
  have c2 := cell_of_row _ w.heap.size 2 _ _ _ K0
  simp only [List.getElem?_toArray, List.getElem?_cons_zero, List.getElem?_cons_succ] at c0 c1 c2
  clear K0
  clear HC0 hst0'
  have HC1 := Lib.hid (write_made [⟨#[32]⟩, s, ⟨#[32]⟩] gp ((A) ++ txt l) o0 w0 hp0' (by simp) (by intro x hx; simp only [List.mem_cons, List.not_mem_nil, or_false] at hx; rcases hx with rfl | rfl | rfl <;> first | assumption | decide))
  go_wp2_with fail
  refine HC1.out.mono ?_
  rintro e1 w1 ⟨rfl, o1, hp1', hst1'⟩
  have hq1 := hq0.trans hst1'
  clear c0 c1 c2
  have K1 := (HFB.out.same hst1' w.heap.size rfl).trans HK.out
  replace HFB := Lib.hid (HFB.out.step hst1')
  replace HK := Lib.hid K1
  have c0 := cell_of_row _ w.heap.size 0 _ _ _ K1
  have c1 := cell_of_row _ w.heap.size 1 _ _ _ K1
  have c2 := cell_of_row _ w.heap.size 2 _ _ _ K1
  simp only [List.getElem?_toArray, List.getElem?_cons_zero, List.getElem?_cons_succ] at c0 c1 c2
  clear K1
  clear HC1 hst1'
  have HC2 := Lib.hid (hr0 gp (cat ((A) ++ txt l) [⟨#[32]⟩, s, ⟨#[32]⟩]) o1 S w1 (.iface tr xr) hp1' (NodeIn.kept (HF.out.same hq1) (fun _ h => h) _ _ hr) (HF.out.step hq1))
  go_wp2_with fail
  refine HC2.out.mono ?_
  rintro e2 w2 ⟨rfl, o2, hp2', hst2'⟩
  have hq2 := hq1.trans hst2'
  clear c0 c1 c2
  have K2 := (HFB.out.same hst2' w.heap.size rfl).trans HK.out
  replace HFB := Lib.hid (HFB.out.step hst2')
  replace HK := Lib.hid K2
  have c0 := cell_of_row _ w.heap.size 0 _ _ _ K2
  have c1 := cell_of_row _ w.heap.size 1 _ _ _ K2
  have c2 := cell_of_row _ w.heap.size 2 _ _ _ K2
  simp only [List.getElem?_toArray, List.getElem?_cons_zero, List.getElem?_cons_succ] at c0 c1 c2
  clear K2
  clear HC2 hst2'
  have hfin : Prn gp (A ++ txt (.cmp s l r)) o2 w2 := by
    have e : A ++ txt (.cmp s l r) = (cat ((A) ++ txt l) [⟨#[32]⟩, s, ⟨#[32]⟩]) ++ txt r := by
      rw [txt]
      simp [cat, ByteArray.append_assoc]
    rw [e]
    exact hp2'
  have HFIN := Lib.hid hfin
  have HQ := Lib.hid hq2
  clear hfin
  go_wp2
  go_end0
  exact ⟨rfl, _, HFIN.out, HQ.out⟩

set_option maxRecDepth 100000 in
set_option maxHeartbeats 2000000 in
theorem put_atom (p s : BA) (ks : List Nd) (hks : ∀ n ∈ ks, PutOk n) : PutOk (.atom p s ks) := by
  intro gp A o S w v hp hv hf
  rw [NodeIn] at hv
  obtain ⟨a, c, rfl, hp1, hs, hn, hl⟩ := hv
  have hb0 : Below w.heap.size w (w.alloc (.cells #[.string p, .string s, .slice a ks.length c] 139)) := (Below.refl _ _).alloc (Nat.le_refl _) _
  have K0 := heap_alloc_new w (.cells #[.string p, .string s, .slice a ks.length c] 139)
  have hst0 : Step gp o o w (w.alloc (.cells #[.string p, .string s, .slice a ks.length c] 139)) := Step.below hb0
  have hp0 : Prn gp A o (w.alloc (.cells #[.string p, .string s, .slice a ks.length c] 139)) := hp.go hb0
  have hgp := hp.lt
  have howl : ∀ k, o = some k → k < w.heap.size := fun k h => (hp.own h).2
  have hfb : Free (fun b => b = w.heap.size) gp o (w.alloc (.cells #[.string p, .string s, .slice a ks.length c] 139)) := by
    rintro b rfl
    exact ⟨by simp, by omega, fun h => by have := howl _ h; omega⟩
  obtain ⟨W0, hW0⟩ : ∃ W0, (w.alloc (.cells #[.string p, .string s, .slice a ks.length c] 139)) = W0 := ⟨_, rfl⟩
  rw [hW0] at hst0 hp0 K0 hfb
  have t_word := as_atom_word w (.agg #[.string p, .string s, .slice a ks.length c])
  have t_con := as_atom_con w (.agg #[.string p, .string s, .slice a ks.length c])
  have t_pair := as_atom_pair w (.agg #[.string p, .string s, .slice a ks.length c])
  have t_atom := as_atom_atom w (.agg #[.string p, .string s, .slice a ks.length c])
  have HK := Lib.hid K0
  have HFB := Lib.hid hfb
  have c0 := cell_of_row _ w.heap.size 0 _ _ _ K0
  have c1 := cell_of_row _ w.heap.size 1 _ _ _ K0
  have c2 := cell_of_row _ w.heap.size 2 _ _ _ K0
  simp only [List.getElem?_toArray, List.getElem?_cons_zero, List.getElem?_cons_succ] at c0 c1 c2
  have HF := Lib.hid hf
  clear hf hp hb0 hgp howl K0 hfb
  go_enter Tryz.func82, Tryz.ntmps82
  have HC0 := Lib.hid (write_made [p, s] gp (A) o W0 hp0 (by simp) (by intro x hx; simp only [List.mem_cons, List.not_mem_nil, or_false] at hx; rcases hx with rfl | rfl <;> first | assumption | decide))
  go_wp2_with fail
  refine HC0.out.mono ?_
  rintro e0 w0 ⟨rfl, o0, hp0', hst0'⟩
  have hq0 := hst0.trans hst0'
  clear c0 c1 c2
  have K0 := (HFB.out.same hst0' w.heap.size rfl).trans HK.out
  replace HFB := Lib.hid (HFB.out.step hst0')
  replace HK := Lib.hid K0
  have c0 := cell_of_row _ w.heap.size 0 _ _ _ K0
  have c1 := cell_of_row _ w.heap.size 1 _ _ _ K0
  have c2 := cell_of_row _ w.heap.size 2 _ _ _ K0
  simp only [List.getElem?_toArray, List.getElem?_cons_zero, List.getElem?_cons_succ] at c0 c1 c2
  clear K0
  clear HC0 hst0'
  have HC1 := Lib.hid (brackets_of ks hks gp (cat (A) [p, s]) o0 S w0 a c hp0' (NodesIn.kept (HF.out.same hq0) (fun _ h => h) _ _ _ hl) (HF.out.step hq0) hn)
  go_wp2_with fail
  refine HC1.out.mono ?_
  rintro e1 w1 ⟨rfl, o1, hp1', hst1'⟩
  have hq1 := hq0.trans hst1'
  clear c0 c1 c2
  have K1 := (HFB.out.same hst1' w.heap.size rfl).trans HK.out
  replace HFB := Lib.hid (HFB.out.step hst1')
  replace HK := Lib.hid K1
  have c0 := cell_of_row _ w.heap.size 0 _ _ _ K1
  have c1 := cell_of_row _ w.heap.size 1 _ _ _ K1
  have c2 := cell_of_row _ w.heap.size 2 _ _ _ K1
  simp only [List.getElem?_toArray, List.getElem?_cons_zero, List.getElem?_cons_succ] at c0 c1 c2
  clear K1
  clear HC1 hst1'
  have hfin : Prn gp (A ++ txt (.atom p s ks)) o1 w1 := by
    have e : A ++ txt (.atom p s ks) = (cat (A) [p, s]) ++ (⟨#[40]⟩ ++ (txtL ⟨#[44, 32]⟩ false ks ++ ⟨#[41]⟩)) := by
      rw [txt]
      simp [cat, ByteArray.append_assoc]
    rw [e]
    exact hp1'
  have HFIN := Lib.hid hfin
  have HQ := Lib.hid hq1
  clear hfin
  go_wp2
  go_end0
  exact ⟨rfl, _, HFIN.out, HQ.out⟩

set_option maxRecDepth 100000 in
set_option maxHeartbeats 2000000 in
theorem put_con0 (s : BA)  : PutOk (.con s []) := by
  intro gp A o S w v hp hv hf
  rw [NodeIn] at hv
  obtain ⟨a, c, rfl, hs, hn, hl⟩ := hv
  rw [List.length_nil]
  have hb0 : Below w.heap.size w (w.alloc (.cells #[.string s, .slice a 0 c] 146)) := (Below.refl _ _).alloc (Nat.le_refl _) _
  have K0 := heap_alloc_new w (.cells #[.string s, .slice a 0 c] 146)
  have hst0 : Step gp o o w (w.alloc (.cells #[.string s, .slice a 0 c] 146)) := Step.below hb0
  have hp0 : Prn gp A o (w.alloc (.cells #[.string s, .slice a 0 c] 146)) := hp.go hb0
  have hgp := hp.lt
  have howl : ∀ k, o = some k → k < w.heap.size := fun k h => (hp.own h).2
  have hfb : Free (fun b => b = w.heap.size) gp o (w.alloc (.cells #[.string s, .slice a 0 c] 146)) := by
    rintro b rfl
    exact ⟨by simp, by omega, fun h => by have := howl _ h; omega⟩
  obtain ⟨W0, hW0⟩ : ∃ W0, (w.alloc (.cells #[.string s, .slice a 0 c] 146)) = W0 := ⟨_, rfl⟩
  rw [hW0] at hst0 hp0 K0 hfb
  have t_word := as_con_word w (.agg #[.string s, .slice a 0 c])
  have t_con := as_con_con w (.agg #[.string s, .slice a 0 c])
  have HK := Lib.hid K0
  have HFB := Lib.hid hfb
  have c0 := cell_of_row _ w.heap.size 0 _ _ _ K0
  have c1 := cell_of_row _ w.heap.size 1 _ _ _ K0
  simp only [List.getElem?_toArray, List.getElem?_cons_zero, List.getElem?_cons_succ] at c0 c1
  have HF := Lib.hid hf
  clear hf hp hb0 hgp howl K0 hfb
  go_enter Tryz.func82, Tryz.ntmps82
  have HC0 := Lib.hid (write_made [s] gp (A) o W0 hp0 (by simp) (by intro x hx; simp only [List.mem_cons, List.not_mem_nil, or_false] at hx; rcases hx with rfl <;> first | assumption | decide))
  go_wp2_with fail
  refine HC0.out.mono ?_
  rintro e0 w0 ⟨rfl, o0, hp0', hst0'⟩
  have hq0 := hst0.trans hst0'
  clear c0 c1
  have K0 := (HFB.out.same hst0' w.heap.size rfl).trans HK.out
  replace HFB := Lib.hid (HFB.out.step hst0')
  replace HK := Lib.hid K0
  have c0 := cell_of_row _ w.heap.size 0 _ _ _ K0
  have c1 := cell_of_row _ w.heap.size 1 _ _ _ K0
  simp only [List.getElem?_toArray, List.getElem?_cons_zero, List.getElem?_cons_succ] at c0 c1
  clear K0
  clear HC0 hst0'
  have hfin : Prn gp (A ++ txt (.con s [])) o0 w0 := by
    have e : A ++ txt (.con s []) = cat (A) [s] := by
      rw [txt]
      simp [cat]
    rw [e]
    exact hp0'
  have HFIN := Lib.hid hfin
  have HQ := Lib.hid hq0
  clear hfin
  go_wp2
  go_end0
  exact ⟨rfl, _, HFIN.out, HQ.out⟩

set_option maxRecDepth 100000 in
set_option maxHeartbeats 2000000 in
theorem put_con1 (s : BA) (ks : List Nd) (hks : ∀ n ∈ ks, PutOk n) (hne : 0 < ks.length) : PutOk (.con s ks) := by
  intro gp A o S w v hp hv hf
  rw [NodeIn] at hv
  obtain ⟨a, c, rfl, hs, hn, hl⟩ := hv
  have hb0 : Below w.heap.size w (w.alloc (.cells #[.string s, .slice a ks.length c] 146)) := (Below.refl _ _).alloc (Nat.le_refl _) _
  have K0 := heap_alloc_new w (.cells #[.string s, .slice a ks.length c] 146)
  have hst0 : Step gp o o w (w.alloc (.cells #[.string s, .slice a ks.length c] 146)) := Step.below hb0
  have hp0 : Prn gp A o (w.alloc (.cells #[.string s, .slice a ks.length c] 146)) := hp.go hb0
  have hgp := hp.lt
  have howl : ∀ k, o = some k → k < w.heap.size := fun k h => (hp.own h).2
  have hfb : Free (fun b => b = w.heap.size) gp o (w.alloc (.cells #[.string s, .slice a ks.length c] 146)) := by
    rintro b rfl
    exact ⟨by simp, by omega, fun h => by have := howl _ h; omega⟩
  obtain ⟨W0, hW0⟩ : ∃ W0, (w.alloc (.cells #[.string s, .slice a ks.length c] 146)) = W0 := ⟨_, rfl⟩
  rw [hW0] at hst0 hp0 K0 hfb
  have t_word := as_con_word w (.agg #[.string s, .slice a ks.length c])
  have t_con := as_con_con w (.agg #[.string s, .slice a ks.length c])
  have HK := Lib.hid K0
  have HFB := Lib.hid hfb
  have c0 := cell_of_row _ w.heap.size 0 _ _ _ K0
  have c1 := cell_of_row _ w.heap.size 1 _ _ _ K0
  simp only [List.getElem?_toArray, List.getElem?_cons_zero, List.getElem?_cons_succ] at c0 c1
  have HF := Lib.hid hf
  clear hf hp hb0 hgp howl K0 hfb
  have hd : decide ((0 : Int) < (ks.length : Int)) = true := decide_eq_true (by omega)
  have hd2 : decide (0 < ks.length) = true := decide_eq_true hne
  go_enter Tryz.func82, Tryz.ntmps82
  have HC0 := Lib.hid (write_made [s] gp (A) o W0 hp0 (by simp) (by intro x hx; simp only [List.mem_cons, List.not_mem_nil, or_false] at hx; rcases hx with rfl <;> first | assumption | decide))
  go_wp2_with fail
  refine HC0.out.mono ?_
  rintro e0 w0 ⟨rfl, o0, hp0', hst0'⟩
  have hq0 := hst0.trans hst0'
  clear c0 c1
  have K0 := (HFB.out.same hst0' w.heap.size rfl).trans HK.out
  replace HFB := Lib.hid (HFB.out.step hst0')
  replace HK := Lib.hid K0
  have c0 := cell_of_row _ w.heap.size 0 _ _ _ K0
  have c1 := cell_of_row _ w.heap.size 1 _ _ _ K0
  simp only [List.getElem?_toArray, List.getElem?_cons_zero, List.getElem?_cons_succ] at c0 c1
  clear K0
  clear HC0 hst0'
  have HC1 := Lib.hid (brackets_of ks hks gp (cat (A) [s]) o0 S w0 a c hp0' (NodesIn.kept (HF.out.same hq0) (fun _ h => h) _ _ _ hl) (HF.out.step hq0) hn)
  go_wp2_with fail
  refine HC1.out.mono ?_
  rintro e1 w1 ⟨rfl, o1, hp1', hst1'⟩
  have hq1 := hq0.trans hst1'
  clear c0 c1
  have K1 := (HFB.out.same hst1' w.heap.size rfl).trans HK.out
  replace HFB := Lib.hid (HFB.out.step hst1')
  replace HK := Lib.hid K1
  have c0 := cell_of_row _ w.heap.size 0 _ _ _ K1
  have c1 := cell_of_row _ w.heap.size 1 _ _ _ K1
  simp only [List.getElem?_toArray, List.getElem?_cons_zero, List.getElem?_cons_succ] at c0 c1
  clear K1
  clear HC1 hst1'
  have hfin : Prn gp (A ++ txt (.con s ks)) o1 w1 := by
    have e : A ++ txt (.con s ks) = (cat (A) [s]) ++ (⟨#[40]⟩ ++ (txtL ⟨#[44, 32]⟩ false ks ++ ⟨#[41]⟩)) := by
      rw [txt]
      rw [if_neg (by intro h; rw [List.isEmpty_iff.1 h] at hne; cases hne)]; simp [cat, ByteArray.append_assoc]
    rw [e]
    exact hp1'
  have HFIN := Lib.hid hfin
  have HQ := Lib.hid hq1
  clear hfin
  go_wp2
  go_end0
  exact ⟨rfl, _, HFIN.out, HQ.out⟩

set_option maxRecDepth 100000 in
set_option maxHeartbeats 2000000 in
theorem put_rule0 (h : Nd) (hh0 : PutOk h) : PutOk (.rule h []) := by
  intro gp A o S w v hp hv hf
  rw [NodeIn] at hv
  obtain ⟨vh, a, c, rfl, hn, hh, hl⟩ := hv
  obtain ⟨th, xh, rfl⟩ := hh.shape
  rw [List.length_nil]
  have hb0 : Below w.heap.size w (w.alloc (.cells #[.iface th xh, .slice a 0 c] 116)) := (Below.refl _ _).alloc (Nat.le_refl _) _
  have K0 := heap_alloc_new w (.cells #[.iface th xh, .slice a 0 c] 116)
  have hst0 : Step gp o o w (w.alloc (.cells #[.iface th xh, .slice a 0 c] 116)) := Step.below hb0
  have hp0 : Prn gp A o (w.alloc (.cells #[.iface th xh, .slice a 0 c] 116)) := hp.go hb0
  have hgp := hp.lt
  have howl : ∀ k, o = some k → k < w.heap.size := fun k h => (hp.own h).2
  have hfb : Free (fun b => b = w.heap.size) gp o (w.alloc (.cells #[.iface th xh, .slice a 0 c] 116)) := by
    rintro b rfl
    exact ⟨by simp, by omega, fun h => by have := howl _ h; omega⟩
  obtain ⟨W0, hW0⟩ : ∃ W0, (w.alloc (.cells #[.iface th xh, .slice a 0 c] 116)) = W0 := ⟨_, rfl⟩
  rw [hW0] at hst0 hp0 K0 hfb
  have t_word := as_rule_word w (.agg #[.iface th xh, .slice a 0 c])
  have t_con := as_rule_con w (.agg #[.iface th xh, .slice a 0 c])
  have t_pair := as_rule_pair w (.agg #[.iface th xh, .slice a 0 c])
  have t_atom := as_rule_atom w (.agg #[.iface th xh, .slice a 0 c])
  have t_cmp := as_rule_cmp w (.agg #[.iface th xh, .slice a 0 c])
  have t_rule := as_rule_rule w (.agg #[.iface th xh, .slice a 0 c])
  have HK := Lib.hid K0
  have HFB := Lib.hid hfb
  have c0 := cell_of_row _ w.heap.size 0 _ _ _ K0
  have c1 := cell_of_row _ w.heap.size 1 _ _ _ K0
  simp only [List.getElem?_toArray, List.getElem?_cons_zero, List.getElem?_cons_succ] at c0 c1
  have HF := Lib.hid hf
  clear hf hp hb0 hgp howl K0 hfb
  go_enter Tryz.func82, Tryz.ntmps82
  have HC0 := Lib.hid (hh0 gp (A) o S W0 (.iface th xh) hp0 (NodeIn.kept (HF.out.same hst0) (fun _ h => h) _ _ hh) (HF.out.step hst0))
  go_wp2_with fail
  refine HC0.out.mono ?_
  rintro e0 w0 ⟨rfl, o0, hp0', hst0'⟩
  have hq0 := hst0.trans hst0'
  clear c0 c1
  have K0 := (HFB.out.same hst0' w.heap.size rfl).trans HK.out
  replace HFB := Lib.hid (HFB.out.step hst0')
  replace HK := Lib.hid K0
  have c0 := cell_of_row _ w.heap.size 0 _ _ _ K0
  have c1 := cell_of_row _ w.heap.size 1 _ _ _ K0
  simp only [List.getElem?_toArray, List.getElem?_cons_zero, List.getElem?_cons_succ] at c0 c1
  clear K0
  clear HC0 hst0'
  have HC1 := Lib.hid (write_made [⟨#[46]⟩] gp ((A) ++ txt h) o0 w0 hp0' (by simp) (by intro x hx; simp only [List.mem_cons, List.not_mem_nil, or_false] at hx; rcases hx with rfl <;> first | assumption | decide))
  go_wp2_with fail
  refine HC1.out.mono ?_
  rintro e1 w1 ⟨rfl, o1, hp1', hst1'⟩
  have hq1 := hq0.trans hst1'
  clear c0 c1
  have K1 := (HFB.out.same hst1' w.heap.size rfl).trans HK.out
  replace HFB := Lib.hid (HFB.out.step hst1')
  replace HK := Lib.hid K1
  have c0 := cell_of_row _ w.heap.size 0 _ _ _ K1
  have c1 := cell_of_row _ w.heap.size 1 _ _ _ K1
  simp only [List.getElem?_toArray, List.getElem?_cons_zero, List.getElem?_cons_succ] at c0 c1
  clear K1
  clear HC1 hst1'
  have hfin : Prn gp (A ++ txt (.rule h [])) o1 w1 := by
    have e : A ++ txt (.rule h []) = cat ((A) ++ txt h) [⟨#[46]⟩] := by
      rw [txt]
      simp [cat, ByteArray.append_assoc, empty_ba]
    rw [e]
    exact hp1'
  have HFIN := Lib.hid hfin
  have HQ := Lib.hid hq1
  clear hfin
  go_wp2
  go_end0
  exact ⟨rfl, _, HFIN.out, HQ.out⟩

set_option maxRecDepth 100000 in
set_option maxHeartbeats 2000000 in
theorem put_rule1 (h : Nd) (b : List Nd) (hh0 : PutOk h) (hb0' : ∀ n ∈ b, PutOk n) (hne : 0 < b.length) : PutOk (.rule h b) := by
  intro gp A o S w v hp hv hf
  rw [NodeIn] at hv
  obtain ⟨vh, a, c, rfl, hn, hh, hl⟩ := hv
  obtain ⟨th, xh, rfl⟩ := hh.shape
  have hb0 : Below w.heap.size w (w.alloc (.cells #[.iface th xh, .slice a b.length c] 116)) := (Below.refl _ _).alloc (Nat.le_refl _) _
  have K0 := heap_alloc_new w (.cells #[.iface th xh, .slice a b.length c] 116)
  have hst0 : Step gp o o w (w.alloc (.cells #[.iface th xh, .slice a b.length c] 116)) := Step.below hb0
  have hp0 : Prn gp A o (w.alloc (.cells #[.iface th xh, .slice a b.length c] 116)) := hp.go hb0
  have hgp := hp.lt
  have howl : ∀ k, o = some k → k < w.heap.size := fun k h => (hp.own h).2
  have hfb : Free (fun b => b = w.heap.size) gp o (w.alloc (.cells #[.iface th xh, .slice a b.length c] 116)) := by
    rintro b rfl
    exact ⟨by simp, by omega, fun h => by have := howl _ h; omega⟩
  obtain ⟨W0, hW0⟩ : ∃ W0, (w.alloc (.cells #[.iface th xh, .slice a b.length c] 116)) = W0 := ⟨_, rfl⟩
  rw [hW0] at hst0 hp0 K0 hfb
  have t_word := as_rule_word w (.agg #[.iface th xh, .slice a b.length c])
  have t_con := as_rule_con w (.agg #[.iface th xh, .slice a b.length c])
  have t_pair := as_rule_pair w (.agg #[.iface th xh, .slice a b.length c])
  have t_atom := as_rule_atom w (.agg #[.iface th xh, .slice a b.length c])
  have t_cmp := as_rule_cmp w (.agg #[.iface th xh, .slice a b.length c])
  have t_rule := as_rule_rule w (.agg #[.iface th xh, .slice a b.length c])
  have HK := Lib.hid K0
  have HFB := Lib.hid hfb
  have c0 := cell_of_row _ w.heap.size 0 _ _ _ K0
  have c1 := cell_of_row _ w.heap.size 1 _ _ _ K0
  simp only [List.getElem?_toArray, List.getElem?_cons_zero, List.getElem?_cons_succ] at c0 c1
  have HF := Lib.hid hf
  clear hf hp hb0 hgp howl K0 hfb
  have hd : decide ((0 : Int) < (b.length : Int)) = true := decide_eq_true (by omega)
  have hd2 : decide (0 < b.length) = true := decide_eq_true hne
  go_enter Tryz.func82, Tryz.ntmps82
  have HC0 := Lib.hid (hh0 gp (A) o S W0 (.iface th xh) hp0 (NodeIn.kept (HF.out.same hst0) (fun _ h => h) _ _ hh) (HF.out.step hst0))
  go_wp2_with fail
  refine HC0.out.mono ?_
  rintro e0 w0 ⟨rfl, o0, hp0', hst0'⟩
  have hq0 := hst0.trans hst0'
  clear c0 c1
  have K0 := (HFB.out.same hst0' w.heap.size rfl).trans HK.out
  replace HFB := Lib.hid (HFB.out.step hst0')
  replace HK := Lib.hid K0
  have c0 := cell_of_row _ w.heap.size 0 _ _ _ K0
  have c1 := cell_of_row _ w.heap.size 1 _ _ _ K0
  simp only [List.getElem?_toArray, List.getElem?_cons_zero, List.getElem?_cons_succ] at c0 c1
  clear K0
  clear HC0 hst0'
  have HC1 := Lib.hid (write_made [⟨#[32, 58, 45, 32]⟩] gp ((A) ++ txt h) o0 w0 hp0' (by simp) (by intro x hx; simp only [List.mem_cons, List.not_mem_nil, or_false] at hx; rcases hx with rfl <;> first | assumption | decide))
  go_wp2_with fail
  refine HC1.out.mono ?_
  rintro e1 w1 ⟨rfl, o1, hp1', hst1'⟩
  have hq1 := hq0.trans hst1'
  clear c0 c1
  have K1 := (HFB.out.same hst1' w.heap.size rfl).trans HK.out
  replace HFB := Lib.hid (HFB.out.step hst1')
  replace HK := Lib.hid K1
  have c0 := cell_of_row _ w.heap.size 0 _ _ _ K1
  have c1 := cell_of_row _ w.heap.size 1 _ _ _ K1
  simp only [List.getElem?_toArray, List.getElem?_cons_zero, List.getElem?_cons_succ] at c0 c1
  clear K1
  clear HC1 hst1'
  have HC2 := Lib.hid (putList_of b hb0' gp (cat ((A) ++ txt h) [⟨#[32, 58, 45, 32]⟩]) o1 S w1 a c ⟨#[44, 32]⟩ hp1' (NodesIn.kept (HF.out.same hq1) (fun _ h => h) _ _ _ hl) (HF.out.step hq1) hn (by decide))
  go_wp2_with fail
  refine HC2.out.mono ?_
  rintro e2 w2 ⟨rfl, o2, hp2', hst2'⟩
  have hq2 := hq1.trans hst2'
  clear c0 c1
  have K2 := (HFB.out.same hst2' w.heap.size rfl).trans HK.out
  replace HFB := Lib.hid (HFB.out.step hst2')
  replace HK := Lib.hid K2
  have c0 := cell_of_row _ w.heap.size 0 _ _ _ K2
  have c1 := cell_of_row _ w.heap.size 1 _ _ _ K2
  simp only [List.getElem?_toArray, List.getElem?_cons_zero, List.getElem?_cons_succ] at c0 c1
  clear K2
  clear HC2 hst2'
  have HC3 := Lib.hid (write_made [⟨#[46]⟩] gp ((cat ((A) ++ txt h) [⟨#[32, 58, 45, 32]⟩]) ++ txtL ⟨#[44, 32]⟩ false b) o2 w2 hp2' (by simp) (by intro x hx; simp only [List.mem_cons, List.not_mem_nil, or_false] at hx; rcases hx with rfl <;> first | assumption | decide))
  go_wp2_with fail
  refine HC3.out.mono ?_
  rintro e3 w3 ⟨rfl, o3, hp3', hst3'⟩
  have hq3 := hq2.trans hst3'
  clear c0 c1
  have K3 := (HFB.out.same hst3' w.heap.size rfl).trans HK.out
  replace HFB := Lib.hid (HFB.out.step hst3')
  replace HK := Lib.hid K3
  have c0 := cell_of_row _ w.heap.size 0 _ _ _ K3
  have c1 := cell_of_row _ w.heap.size 1 _ _ _ K3
  simp only [List.getElem?_toArray, List.getElem?_cons_zero, List.getElem?_cons_succ] at c0 c1
  clear K3
  clear HC3 hst3'
  have hfin : Prn gp (A ++ txt (.rule h b)) o3 w3 := by
    have e : A ++ txt (.rule h b) = cat ((cat ((A) ++ txt h) [⟨#[32, 58, 45, 32]⟩]) ++ txtL ⟨#[44, 32]⟩ false b) [⟨#[46]⟩] := by
      rw [txt]
      rw [if_neg (by intro h; rw [List.isEmpty_iff.1 h] at hne; cases hne)]; simp [cat, ByteArray.append_assoc]
    rw [e]
    exact hp3'
  have HFIN := Lib.hid hfin
  have HQ := Lib.hid hq3
  clear hfin
  go_wp2
  go_end0
  exact ⟨rfl, _, HFIN.out, HQ.out⟩

set_option maxRecDepth 100000 in
set_option maxHeartbeats 2000000 in
theorem put_type (s : BA) (ks : List Nd) (hks : ∀ n ∈ ks, PutOk n) : PutOk (.type s ks) := by
  intro gp A o S w v hp hv hf
  rw [NodeIn] at hv
  obtain ⟨a, c, rfl, hs, hn, hl⟩ := hv
  have hb0 : Below w.heap.size w (w.alloc (.cells #[.string s, .slice a ks.length c] 151)) := (Below.refl _ _).alloc (Nat.le_refl _) _
  have K0 := heap_alloc_new w (.cells #[.string s, .slice a ks.length c] 151)
  have hst0 : Step gp o o w (w.alloc (.cells #[.string s, .slice a ks.length c] 151)) := Step.below hb0
  have hp0 : Prn gp A o (w.alloc (.cells #[.string s, .slice a ks.length c] 151)) := hp.go hb0
  have hgp := hp.lt
  have howl : ∀ k, o = some k → k < w.heap.size := fun k h => (hp.own h).2
  have hfb : Free (fun b => b = w.heap.size) gp o (w.alloc (.cells #[.string s, .slice a ks.length c] 151)) := by
    rintro b rfl
    exact ⟨by simp, by omega, fun h => by have := howl _ h; omega⟩
  obtain ⟨W0, hW0⟩ : ∃ W0, (w.alloc (.cells #[.string s, .slice a ks.length c] 151)) = W0 := ⟨_, rfl⟩
  rw [hW0] at hst0 hp0 K0 hfb
  have t_word := as_type_word w (.agg #[.string s, .slice a ks.length c])
  have t_con := as_type_con w (.agg #[.string s, .slice a ks.length c])
  have t_pair := as_type_pair w (.agg #[.string s, .slice a ks.length c])
  have t_atom := as_type_atom w (.agg #[.string s, .slice a ks.length c])
  have t_cmp := as_type_cmp w (.agg #[.string s, .slice a ks.length c])
  have t_rule := as_type_rule w (.agg #[.string s, .slice a ks.length c])
  have t_type := as_type_type w (.agg #[.string s, .slice a ks.length c])
  have HK := Lib.hid K0
  have HFB := Lib.hid hfb
  have c0 := cell_of_row _ w.heap.size 0 _ _ _ K0
  have c1 := cell_of_row _ w.heap.size 1 _ _ _ K0
  simp only [List.getElem?_toArray, List.getElem?_cons_zero, List.getElem?_cons_succ] at c0 c1
  have HF := Lib.hid hf
  clear hf hp hb0 hgp howl K0 hfb
  go_enter Tryz.func82, Tryz.ntmps82
  have HC0 := Lib.hid (write_made [⟨#[116, 121, 112, 101, 32]⟩, s, ⟨#[32, 61, 32]⟩] gp (A) o W0 hp0 (by simp) (by intro x hx; simp only [List.mem_cons, List.not_mem_nil, or_false] at hx; rcases hx with rfl | rfl | rfl <;> first | assumption | decide))
  go_wp2_with fail
  refine HC0.out.mono ?_
  rintro e0 w0 ⟨rfl, o0, hp0', hst0'⟩
  have hq0 := hst0.trans hst0'
  clear c0 c1
  have K0 := (HFB.out.same hst0' w.heap.size rfl).trans HK.out
  replace HFB := Lib.hid (HFB.out.step hst0')
  replace HK := Lib.hid K0
  have c0 := cell_of_row _ w.heap.size 0 _ _ _ K0
  have c1 := cell_of_row _ w.heap.size 1 _ _ _ K0
  simp only [List.getElem?_toArray, List.getElem?_cons_zero, List.getElem?_cons_succ] at c0 c1
  clear K0
  clear HC0 hst0'
  have HC1 := Lib.hid (putList_of ks hks gp (cat (A) [⟨#[116, 121, 112, 101, 32]⟩, s, ⟨#[32, 61, 32]⟩]) o0 S w0 a c ⟨#[32, 124, 32]⟩ hp0' (NodesIn.kept (HF.out.same hq0) (fun _ h => h) _ _ _ hl) (HF.out.step hq0) hn (by decide))
  go_wp2_with fail
  refine HC1.out.mono ?_
  rintro e1 w1 ⟨rfl, o1, hp1', hst1'⟩
  have hq1 := hq0.trans hst1'
  clear c0 c1
  have K1 := (HFB.out.same hst1' w.heap.size rfl).trans HK.out
  replace HFB := Lib.hid (HFB.out.step hst1')
  replace HK := Lib.hid K1
  have c0 := cell_of_row _ w.heap.size 0 _ _ _ K1
  have c1 := cell_of_row _ w.heap.size 1 _ _ _ K1
  simp only [List.getElem?_toArray, List.getElem?_cons_zero, List.getElem?_cons_succ] at c0 c1
  clear K1
  clear HC1 hst1'
  have HC2 := Lib.hid (write_made [⟨#[46]⟩] gp ((cat (A) [⟨#[116, 121, 112, 101, 32]⟩, s, ⟨#[32, 61, 32]⟩]) ++ txtL ⟨#[32, 124, 32]⟩ false ks) o1 w1 hp1' (by simp) (by intro x hx; simp only [List.mem_cons, List.not_mem_nil, or_false] at hx; rcases hx with rfl <;> first | assumption | decide))
  go_wp2_with fail
  refine HC2.out.mono ?_
  rintro e2 w2 ⟨rfl, o2, hp2', hst2'⟩
  have hq2 := hq1.trans hst2'
  clear c0 c1
  have K2 := (HFB.out.same hst2' w.heap.size rfl).trans HK.out
  replace HFB := Lib.hid (HFB.out.step hst2')
  replace HK := Lib.hid K2
  have c0 := cell_of_row _ w.heap.size 0 _ _ _ K2
  have c1 := cell_of_row _ w.heap.size 1 _ _ _ K2
  simp only [List.getElem?_toArray, List.getElem?_cons_zero, List.getElem?_cons_succ] at c0 c1
  clear K2
  clear HC2 hst2'
  have hfin : Prn gp (A ++ txt (.type s ks)) o2 w2 := by
    have e : A ++ txt (.type s ks) = cat ((cat (A) [⟨#[116, 121, 112, 101, 32]⟩, s, ⟨#[32, 61, 32]⟩]) ++ txtL ⟨#[32, 124, 32]⟩ false ks) [⟨#[46]⟩] := by
      rw [txt]
      simp [cat, ByteArray.append_assoc]
    rw [e]
    exact hp2'
  have HFIN := Lib.hid hfin
  have HQ := Lib.hid hq2
  clear hfin
  go_wp2
  go_end0
  exact ⟨rfl, _, HFIN.out, HQ.out⟩

set_option maxRecDepth 100000 in
set_option maxHeartbeats 2000000 in
theorem put_rel (n : Nd) (m : BA) (hn0 : PutOk n) : PutOk (.rel n m) := by
  intro gp A o S w v hp hv hf
  rw [NodeIn] at hv
  obtain ⟨vn, rfl, hs, hh⟩ := hv
  obtain ⟨tn, xn, rfl⟩ := hh.shape
  have hb0 : Below w.heap.size w (w.alloc (.cells #[.iface tn xn, .string m] 153)) := (Below.refl _ _).alloc (Nat.le_refl _) _
  have K0 := heap_alloc_new w (.cells #[.iface tn xn, .string m] 153)
  have hst0 : Step gp o o w (w.alloc (.cells #[.iface tn xn, .string m] 153)) := Step.below hb0
  have hp0 : Prn gp A o (w.alloc (.cells #[.iface tn xn, .string m] 153)) := hp.go hb0
  have hgp := hp.lt
  have howl : ∀ k, o = some k → k < w.heap.size := fun k h => (hp.own h).2
  have hfb : Free (fun b => b = w.heap.size) gp o (w.alloc (.cells #[.iface tn xn, .string m] 153)) := by
    rintro b rfl
    exact ⟨by simp, by omega, fun h => by have := howl _ h; omega⟩
  obtain ⟨W0, hW0⟩ : ∃ W0, (w.alloc (.cells #[.iface tn xn, .string m] 153)) = W0 := ⟨_, rfl⟩
  rw [hW0] at hst0 hp0 K0 hfb
  have t_word := as_rel_word w (.agg #[.iface tn xn, .string m])
  have t_con := as_rel_con w (.agg #[.iface tn xn, .string m])
  have t_pair := as_rel_pair w (.agg #[.iface tn xn, .string m])
  have t_atom := as_rel_atom w (.agg #[.iface tn xn, .string m])
  have t_cmp := as_rel_cmp w (.agg #[.iface tn xn, .string m])
  have t_rule := as_rel_rule w (.agg #[.iface tn xn, .string m])
  have t_type := as_rel_type w (.agg #[.iface tn xn, .string m])
  have t_rel := as_rel_rel w (.agg #[.iface tn xn, .string m])
  have HK := Lib.hid K0
  have HFB := Lib.hid hfb
  have c0 := cell_of_row _ w.heap.size 0 _ _ _ K0
  have c1 := cell_of_row _ w.heap.size 1 _ _ _ K0
  simp only [List.getElem?_toArray, List.getElem?_cons_zero, List.getElem?_cons_succ] at c0 c1
  have HF := Lib.hid hf
  clear hf hp hb0 hgp howl K0 hfb
  go_enter Tryz.func82, Tryz.ntmps82
  have HC0 := Lib.hid (write_made [⟨#[114, 101, 108, 32]⟩] gp (A) o W0 hp0 (by simp) (by intro x hx; simp only [List.mem_cons, List.not_mem_nil, or_false] at hx; rcases hx with rfl <;> first | assumption | decide))
  go_wp2_with fail
  refine HC0.out.mono ?_
  rintro e0 w0 ⟨rfl, o0, hp0', hst0'⟩
  have hq0 := hst0.trans hst0'
  clear c0 c1
  have K0 := (HFB.out.same hst0' w.heap.size rfl).trans HK.out
  replace HFB := Lib.hid (HFB.out.step hst0')
  replace HK := Lib.hid K0
  have c0 := cell_of_row _ w.heap.size 0 _ _ _ K0
  have c1 := cell_of_row _ w.heap.size 1 _ _ _ K0
  simp only [List.getElem?_toArray, List.getElem?_cons_zero, List.getElem?_cons_succ] at c0 c1
  clear K0
  clear HC0 hst0'
  have HC1 := Lib.hid (hn0 gp (cat (A) [⟨#[114, 101, 108, 32]⟩]) o0 S w0 (.iface tn xn) hp0' (NodeIn.kept (HF.out.same hq0) (fun _ h => h) _ _ hh) (HF.out.step hq0))
  go_wp2_with fail
  refine HC1.out.mono ?_
  rintro e1 w1 ⟨rfl, o1, hp1', hst1'⟩
  have hq1 := hq0.trans hst1'
  clear c0 c1
  have K1 := (HFB.out.same hst1' w.heap.size rfl).trans HK.out
  replace HFB := Lib.hid (HFB.out.step hst1')
  replace HK := Lib.hid K1
  have c0 := cell_of_row _ w.heap.size 0 _ _ _ K1
  have c1 := cell_of_row _ w.heap.size 1 _ _ _ K1
  simp only [List.getElem?_toArray, List.getElem?_cons_zero, List.getElem?_cons_succ] at c0 c1
  clear K1
  clear HC1 hst1'
  have HC2 := Lib.hid (write_made [m, ⟨#[46]⟩] gp ((cat (A) [⟨#[114, 101, 108, 32]⟩]) ++ txt n) o1 w1 hp1' (by simp) (by intro x hx; simp only [List.mem_cons, List.not_mem_nil, or_false] at hx; rcases hx with rfl | rfl <;> first | assumption | decide))
  go_wp2_with fail
  refine HC2.out.mono ?_
  rintro e2 w2 ⟨rfl, o2, hp2', hst2'⟩
  have hq2 := hq1.trans hst2'
  clear c0 c1
  have K2 := (HFB.out.same hst2' w.heap.size rfl).trans HK.out
  replace HFB := Lib.hid (HFB.out.step hst2')
  replace HK := Lib.hid K2
  have c0 := cell_of_row _ w.heap.size 0 _ _ _ K2
  have c1 := cell_of_row _ w.heap.size 1 _ _ _ K2
  simp only [List.getElem?_toArray, List.getElem?_cons_zero, List.getElem?_cons_succ] at c0 c1
  clear K2
  clear HC2 hst2'
  have hfin : Prn gp (A ++ txt (.rel n m)) o2 w2 := by
    have e : A ++ txt (.rel n m) = cat ((cat (A) [⟨#[114, 101, 108, 32]⟩]) ++ txt n) [m, ⟨#[46]⟩] := by
      rw [txt]
      simp [cat, ByteArray.append_assoc]
    rw [e]
    exact hp2'
  have HFIN := Lib.hid hfin
  have HQ := Lib.hid hq2
  clear hfin
  go_wp2
  go_end0
  exact ⟨rfl, _, HFIN.out, HQ.out⟩

mutual
def depth : Nd → Nat
  | .word _ => 1
  | .con _ ks => depthL ks + 1
  | .pair _ l r => depth l + depth r + 1
  | .atom _ _ ks => depthL ks + 1
  | .cmp _ l r => depth l + depth r + 1
  | .rule h b => depth h + depthL b + 1
  | .type _ cs => depthL cs + 1
  | .rel n _ => depth n + 1
def depthL : List Nd → Nat
  | [] => 0
  | n :: r => depth n + depthL r
end
theorem depth_mem : ∀ (ks : List Nd) (n : Nd), n ∈ ks → depth n ≤ depthL ks
  | m :: r, n, h => by
    rw [depthL]
    rcases List.mem_cons.1 h with rfl | h
    · omega
    · have := depth_mem r n h; omega
theorem put_all : ∀ (d : Nat) (n : Nd), depth n ≤ d → PutOk n
  | 0, n, h => by cases n <;> rw [depth] at h <;> omega
  | d + 1, .word s, h => put_word s
  | d + 1, .con s [], h => put_con0 s
  | d + 1, .con s (k :: ks), h => put_con1 s (k :: ks) (fun n hn => put_all d n (by have := depth_mem _ _ hn; rw [depth] at h; omega)) (by simp)
  | d + 1, .pair s l r, h => put_pair s l r (put_all d l (by rw [depth] at h; omega)) (put_all d r (by rw [depth] at h; omega))
  | d + 1, .atom p s ks, h => put_atom p s ks (fun n hn => put_all d n (by have := depth_mem _ _ hn; rw [depth] at h; omega))
  | d + 1, .cmp s l r, h => put_cmp s l r (put_all d l (by rw [depth] at h; omega)) (put_all d r (by rw [depth] at h; omega))
  | d + 1, .rule n [], h => put_rule0 n (put_all d n (by rw [depth] at h; omega))
  | d + 1, .rule n (k :: ks), h => put_rule1 n (k :: ks) (put_all d n (by rw [depth] at h; omega)) (fun n hn => put_all d n (by have := depth_mem _ _ hn; rw [depth] at h; omega)) (by simp)
  | d + 1, .type s ks, h => put_type s ks (fun n hn => put_all d n (by have := depth_mem _ _ hn; rw [depth] at h; omega))
  | d + 1, .rel n m, h => put_rel n m (put_all d n (by rw [depth] at h; omega))
theorem put_ok (n : Nd) : PutOk n := put_all (depth n) n (Nat.le_refl _)

end Go.Proofs.YtilijbpbnlnhlaaGreat.Pr
