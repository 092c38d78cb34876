/-
  NODES as they lie; their texts; impl's putList, putInBrackets, putOperand, given put.
-/
import Derived.Test.YtilijbpbnlnhlaaGreatPI1
namespace Go.Proofs.YtilijbpbnlnhlaaGreat.Pr
open Go Go.RowKit Go.Maps Go.WideMaps

/-- A node. -/
inductive Nd
  | word (s : BA)
  | con (s : BA) (ks : List Nd)
  | pair (s : BA) (l r : Nd)
  | atom (a s : BA) (ks : List Nd)
  | cmp (s : BA) (l r : Nd)
  | rule (h : Nd) (b : List Nd)
  | type (s : BA) (cs : List Nd)
  | rel (a : Nd) (m : BA)

def Nd.isPair : Nd → Bool
  | .pair _ _ _ => true
  | _ => false

mutual
def NodeIn (S : Nat → Prop) (w : World) : Nd → Value → Prop
  | .word s, v => v = .iface 143 (.string s) ∧ s.size ≤ 1048576
  | .con s ks, v => ∃ (a : Option Addr) (c : Nat), v = .iface 146 (.agg #[.string s, .slice a ks.length c]) ∧ s.size ≤ 1048576 ∧ ks.length ≤ 1048576 ∧ NodesIn S w ks a 0
  | .pair s l r, v => ∃ vl vr : Value, v = .iface 148 (.agg #[.string s, vl, vr]) ∧ s.size ≤ 1048576 ∧ NodeIn S w l vl ∧ NodeIn S w r vr
  | .atom p s ks, v => ∃ (a : Option Addr) (c : Nat), v = .iface 139 (.agg #[.string p, .string s, .slice a ks.length c]) ∧ p.size ≤ 1048576 ∧ s.size ≤ 1048576 ∧ ks.length ≤ 1048576 ∧ NodesIn S w ks a 0
  | .cmp s l r, v => ∃ vl vr : Value, v = .iface 141 (.agg #[.string s, vl, vr]) ∧ s.size ≤ 1048576 ∧ NodeIn S w l vl ∧ NodeIn S w r vr
  | .rule h b, v => ∃ (vh : Value) (a : Option Addr) (c : Nat), v = .iface 116 (.agg #[vh, .slice a b.length c]) ∧ b.length ≤ 1048576 ∧ NodeIn S w h vh ∧ NodesIn S w b a 0
  | .type s cs, v => ∃ (a : Option Addr) (c : Nat), v = .iface 151 (.agg #[.string s, .slice a cs.length c]) ∧ s.size ≤ 1048576 ∧ cs.length ≤ 1048576 ∧ NodesIn S w cs a 0
  | .rel n m, v => ∃ vn : Value, v = .iface 153 (.agg #[vn, .string m]) ∧ m.size ≤ 1048576 ∧ NodeIn S w n vn
def NodesIn (S : Nat → Prop) (w : World) : List Nd → Option Addr → Nat → Prop
  | [], _, _ => True
  | n :: r, a, i => (∃ (b off : Nat) (v : Value), a = some ⟨b, off, none⟩ ∧ S b ∧ w.cell? ⟨b, off + i, none⟩ = some v ∧ NodeIn S w n v) ∧ NodesIn S w r a (i + 1)
end

theorem NodeIn.shape {S : Nat → Prop} {w : World} {n : Nd} {v : Value} (h : NodeIn S w n v) : ∃ (t : TypeId) (x : Value), v = .iface t x := by
  cases n <;> rw [NodeIn] at h
  · exact ⟨_, _, h.1⟩
  · obtain ⟨_, _, h, _⟩ := h; exact ⟨_, _, h⟩
  · obtain ⟨_, _, h, _⟩ := h; exact ⟨_, _, h⟩
  · obtain ⟨_, _, h, _⟩ := h; exact ⟨_, _, h⟩
  · obtain ⟨_, _, h, _⟩ := h; exact ⟨_, _, h⟩
  · obtain ⟨_, _, _, h, _⟩ := h; exact ⟨_, _, h⟩
  · obtain ⟨_, _, h, _⟩ := h; exact ⟨_, _, h⟩
  · obtain ⟨_, h, _⟩ := h; exact ⟨_, _, h⟩

mutual
theorem NodeIn.kept {S T : Nat → Prop} {w w' : World} (hs : Same S w w') (hST : ∀ b, S b → T b) : ∀ (n : Nd) (v : Value), NodeIn S w n v → NodeIn T w' n v
  | .word s, v, h => by rw [NodeIn] at h ⊢; exact h
  | .con s ks, v, h => by
    rw [NodeIn] at h ⊢
    obtain ⟨a, c, h1, h2, h3, h4⟩ := h
    exact ⟨a, c, h1, h2, h3, NodesIn.kept hs hST ks a 0 h4⟩
  | .pair s l r, v, h => by
    rw [NodeIn] at h ⊢
    obtain ⟨a, c, h1, h2, h3, h4⟩ := h
    exact ⟨a, c, h1, h2, NodeIn.kept hs hST l a h3, NodeIn.kept hs hST r c h4⟩
  | .atom p s ks, v, h => by
    rw [NodeIn] at h ⊢
    obtain ⟨a, c, h1, h2, h3, h4, h5⟩ := h
    exact ⟨a, c, h1, h2, h3, h4, NodesIn.kept hs hST ks a 0 h5⟩
  | .cmp s l r, v, h => by
    rw [NodeIn] at h ⊢
    obtain ⟨a, c, h1, h2, h3, h4⟩ := h
    exact ⟨a, c, h1, h2, NodeIn.kept hs hST l a h3, NodeIn.kept hs hST r c h4⟩
  | .rule n b, v, h => by
    rw [NodeIn] at h ⊢
    obtain ⟨vh, a, c, h1, h2, h3, h4⟩ := h
    exact ⟨vh, a, c, h1, h2, NodeIn.kept hs hST n vh h3, NodesIn.kept hs hST b a 0 h4⟩
  | .type s cs, v, h => by
    rw [NodeIn] at h ⊢
    obtain ⟨a, c, h1, h2, h3, h4⟩ := h
    exact ⟨a, c, h1, h2, h3, NodesIn.kept hs hST cs a 0 h4⟩
  | .rel n m, v, h => by
    rw [NodeIn] at h ⊢
    obtain ⟨a, h1, h2, h3⟩ := h
    exact ⟨a, h1, h2, NodeIn.kept hs hST n a h3⟩
theorem NodesIn.kept {S T : Nat → Prop} {w w' : World} (hs : Same S w w') (hST : ∀ b, S b → T b) : ∀ (ks : List Nd) (a : Option Addr) (i : Nat), NodesIn S w ks a i → NodesIn T w' ks a i
  | [], a, i, h => by rw [NodesIn]; trivial
  | n :: r, a, i, h => by
    rw [NodesIn] at h ⊢
    obtain ⟨⟨b, off, v, h1, h2, h3, h4⟩, h5⟩ := h
    exact ⟨⟨b, off, v, h1, hST b h2, (hs.cell h2).trans h3, NodeIn.kept hs hST n v h4⟩, NodesIn.kept hs hST r a (i + 1) h5⟩
end
theorem NodesIn.get {S : Nat → Prop} {w : World} : ∀ (ks : List Nd) (a : Option Addr) (i : Nat), NodesIn S w ks a i → ∀ k (h : k < ks.length), ∃ (b off : Nat) (v : Value), a = some ⟨b, off, none⟩ ∧ S b ∧ w.cell? ⟨b, off + (i + k), none⟩ = some v ∧ NodeIn S w ks[k] v
  | n :: r, a, i, h, k, hk => by
    rw [NodesIn] at h
    cases k with
    | zero => exact h.1
    | succ k =>
      obtain ⟨b, off, v, h1, h2, h3, h4⟩ := NodesIn.get r a (i + 1) h.2 k (by simpa using hk)
      exact ⟨b, off, v, h1, h2, by rw [show i + (k + 1) = i + 1 + k from by omega]; exact h3, h4⟩
theorem NodesIn.of {S : Nat → Prop} {w : World} : ∀ (ks : List Nd) (a : Option Addr) (i : Nat), (∀ k (h : k < ks.length), ∃ (b off : Nat) (v : Value), a = some ⟨b, off, none⟩ ∧ S b ∧ w.cell? ⟨b, off + (i + k), none⟩ = some v ∧ NodeIn S w ks[k] v) → NodesIn S w ks a i
  | [], a, i, h => by rw [NodesIn]; trivial
  | n :: r, a, i, h => by
    rw [NodesIn]
    refine ⟨h 0 (by simp), NodesIn.of r a (i + 1) (fun k hk => ?_)⟩
    obtain ⟨b, off, v, h1, h2, h3, h4⟩ := h (k + 1) (by simpa using hk)
    exact ⟨b, off, v, h1, h2, by rw [show i + 1 + k = i + (k + 1) from by omega]; exact h3, h4⟩

mutual
/-- The text of a node. -/
def txt : Nd → BA
  | .word s => s
  | .con s ks => if ks.isEmpty then s else s ++ (⟨#[40]⟩ ++ (txtL ⟨#[44, 32]⟩ false ks ++ ⟨#[41]⟩))
  | .pair s l r => (if l.isPair then ⟨#[40]⟩ ++ (txt l ++ ⟨#[41]⟩) else txt l) ++ (⟨#[32]⟩ ++ (s ++ (⟨#[32]⟩ ++ (if r.isPair then ⟨#[40]⟩ ++ (txt r ++ ⟨#[41]⟩) else txt r))))
  | .atom p s ks => p ++ (s ++ (⟨#[40]⟩ ++ (txtL ⟨#[44, 32]⟩ false ks ++ ⟨#[41]⟩)))
  | .cmp s l r => txt l ++ (⟨#[32]⟩ ++ (s ++ (⟨#[32]⟩ ++ txt r)))
  | .rule h b => txt h ++ ((if b.isEmpty then ⟨#[]⟩ else ⟨#[32, 58, 45, 32]⟩ ++ txtL ⟨#[44, 32]⟩ false b) ++ ⟨#[46]⟩)
  | .type s cs => ⟨#[116, 121, 112, 101, 32]⟩ ++ (s ++ (⟨#[32, 61, 32]⟩ ++ (txtL ⟨#[32, 124, 32]⟩ false cs ++ ⟨#[46]⟩)))
  | .rel n m => ⟨#[114, 101, 108, 32]⟩ ++ (txt n ++ (m ++ ⟨#[46]⟩))
def txtL (sep : BA) : Bool → List Nd → BA
  | _, [] => ⟨#[]⟩
  | b, n :: r => (if b then sep else ⟨#[]⟩) ++ (txt n ++ txtL sep true r)
end
theorem txtL_snoc (sep : BA) (n : Nd) : ∀ (b : Bool) (l : List Nd), txtL sep b (l ++ [n]) = txtL sep b l ++ ((if b || !l.isEmpty then sep else ⟨#[]⟩) ++ txt n)
  | b, [] => by
    rw [List.nil_append, txtL, txtL, txtL, ba_empty, empty_ba]
    simp
  | b, m :: r => by
    rw [List.cons_append, txtL, txtL, txtL_snoc sep n true r]
    simp [ByteArray.append_assoc]

/-- put of this node does what it should. -/
def PutOk (n : Nd) : Prop := ∀ (gp : Nat) (A : BA) (o : Option Nat) (S : Nat → Prop) (w : World) (v : Value), Prn gp A o w → NodeIn S w n v → Free S gp o w →
  Calls Tryz.prog 82 #[.pointer (some ⟨gp, 0, none⟩), v] w fun e w' => e = .returned (.tuple #[]) ∧ ∃ o', Prn gp (A ++ txt n) o' w' ∧ Step gp o o' w w'

/-- write of a list that is made for it. -/
theorem write_made (xs : List BA) (gp : Nat) (A : BA) (o : Option Nat) (w : World) (hp : Prn gp A o w) (hn : xs.length ≤ 1048576) (hl : ∀ x ∈ xs, x.size ≤ 1048576) :
    Calls Tryz.prog 103 #[.pointer (some ⟨gp, 0, none⟩), .slice (some ⟨w.heap.size, 0, none⟩) xs.length xs.length] (w.alloc (.cells (txtCells xs).toArray 9)) fun e w' => e = .returned (.tuple #[]) ∧ ∃ o', Prn gp (cat A xs) o' w' ∧ Step gp o o' w w' := by
  have hb := (Below.refl w.heap.size w).alloc (Nat.le_refl _) (.cells (txtCells xs).toArray 9)
  refine (write_any gp A o (some ⟨w.heap.size, 0, none⟩) xs.length xs (fun b => b = w.heap.size) _ (hp.go hb) ?_ ?_ hn hl).mono ?_
  · intro i hi
    refine ⟨_, _, rfl, rfl, ?_⟩
    rw [Nat.zero_add, cell_row (heap_alloc_new w _) (j := i) (by simpa [txtCells] using hi)]
    simp only [txtCells, List.getElem_map]
  · rintro b rfl
    refine ⟨by simp, ?_, ?_⟩
    · have := hp.lt; omega
    · intro h
      have := hp.own h
      omega
  · rintro e w' ⟨rfl, o', h1, h2⟩
    exact ⟨rfl, o', h1, (Step.alloc gp o w _).trans h2⟩

def PLRel (gp : Nat) (A : BA) (o : Option Nat) (sep : BA) (ks : List Nd) (w : World) (v10 : Value) (wr : World) : Prop :=
  ∃ (k : Nat) (o' : Option Nat), v10 = .int .i64 (k : Int) ∧ k ≤ ks.length ∧ Prn gp (A ++ txtL sep false (ks.take k)) o' wr ∧ Step gp o o' w wr

set_option maxRecDepth 100000 in
set_option maxHeartbeats 2000000 in
theorem putList_of (ks : List Nd) (hks : ∀ n ∈ ks, PutOk n) (gp : Nat) (A : BA) (o : Option Nat) (S : Nat → Prop) (w : World) (a : Option Addr) (cap : Nat) (sep : BA) (hp : Prn gp A o w) (hx : NodesIn S w ks a 0) (hf : Free S gp o w) (hn : ks.length ≤ 1048576) (hsep : sep.size ≤ 1048576) :
    Calls Tryz.prog 106 #[.pointer (some ⟨gp, 0, none⟩), .slice a ks.length cap, .string sep] w fun e w' => e = .returned (.tuple #[]) ∧ ∃ o', Prn gp (A ++ txtL sep false ks) o' w' ∧ Step gp o o' w w' := by
  have HX := Lib.hid hx
  have HF := Lib.hid hf
  have HP := Lib.hid hp
  have HKS := Lib.hid hks
  clear hx hf hp hks
  go_enter Tryz.func106, Tryz.ntmps106
  go_wp2
  go_loopw [10] (fun v10 wr => PLRel gp A o sep ks w v10 wr) (fun v10 _ => (ks.length - (intOf v10).toNat))
  case atStart => exact ⟨0, o, rfl, Nat.zero_le _, by rw [List.take_zero, txtL, ba_empty]; exact HP.out, Step.refl _ _ _⟩
  case round =>
    obtain ⟨k, o', rfl, hk, hp, hst⟩ := hrel
    by_cases hlt : k < ks.length
    · obtain ⟨b, off, v, rfl, hSb, hxk, hnv⟩ := (NodesIn.kept (HF.out.same hst) (fun _ h => h) ks a 0 HX.out).get ks a 0 k hlt
      rw [Nat.zero_add] at hxk
      have hsn := txtL_snoc sep ks[k] false (ks.take k)
      rw [← List.take_succ_eq_append_getElem hlt] at hsn
      have hput := HKS.out _ (List.getElem_mem hlt)
      have hfr := HF.out.step hst
      by_cases hk0 : 0 < k
      · have hd : decide ((0 : Int) < (k : Int)) = true := decide_eq_true (by omega)
        have hemp : (ks.take k).isEmpty = false := by
          cases h : ks.take k with
          | nil => have := congrArg List.length h; rw [List.length_take, List.length_nil] at this; omega
          | cons _ _ => rfl
        rw [hemp] at hsn
        have HW := Lib.hid (write_made [sep] gp _ o' wr hp (by simp) (by simpa using hsep))
        have HNEXT := Lib.hid (fun (o1 : Option Nat) (w1 : World) (h1 : Prn gp (cat (A ++ txtL sep false (ks.take k)) [sep]) o1 w1) (h2 : Step gp o' o1 wr w1) =>
          (hput gp _ o1 S w1 v h1 (NodeIn.kept (hfr.same h2) (fun _ h => h) _ _ hnv) (hfr.step h2)))
        have HEND := Lib.hid (fun (o1 o2 : Option Nat) (w1 w2 : World) (h2 : Step gp o' o1 wr w1) (h3 : Prn gp (cat (A ++ txtL sep false (ks.take k)) [sep] ++ txt ks[k]) o2 w2) (h4 : Step gp o1 o2 w1 w2) =>
          (⟨k + 1, o2, by go_num, by omega, by
            have e : A ++ txtL sep false (ks.take (k + 1)) = cat (A ++ txtL sep false (ks.take k)) [sep] ++ txt ks[k] := by
              rw [hsn]
              show _ = A ++ txtL sep false (ks.take k) ++ sep ++ txt ks[k]
              simp [ByteArray.append_assoc]
            rw [e]; exact h3, hst.trans (h2.trans h4)⟩ : PLRel gp A o sep ks w (.int .i64 ((k : Int) + 1)) w2))
        clear hp hst hput hfr hsn hemp hnv hSb
        go_wp2_with fail
        refine HW.out.mono ?_
        rintro e1 w1 ⟨rfl, o1, h1, h2⟩
        have HN1 := Lib.hid (HNEXT.out o1 w1 h1 h2)
        have HE1 := Lib.hid (fun o2 w2 h3 h4 => HEND.out o1 o2 w1 w2 h2 h3 h4)
        clear HW HNEXT HEND h1 h2
        go_wp2_with fail
        refine HN1.out.mono ?_
        rintro e2 w2 ⟨rfl, o2, h3, h4⟩
        have HRR := Lib.hid (HE1.out o2 w2 h3 h4)
        clear HN1 HE1 h3 h4
        go_wp2
        go_roundw
        case rel => exact HRR.out
        case measure => simp [intOf]; omega
      · have hd : decide ((0 : Int) < (k : Int)) = false := decide_eq_false (by omega)
        have hemp : (ks.take k).isEmpty = true := by
          rw [show k = 0 from by omega]; rfl
        rw [hemp] at hsn
        have HN1 := Lib.hid (hput gp _ o' S wr v hp hnv hfr)
        have HE1 := Lib.hid (fun (o2 : Option Nat) (w2 : World) (h3 : Prn gp (A ++ txtL sep false (ks.take k) ++ txt ks[k]) o2 w2) (h4 : Step gp o' o2 wr w2) =>
          (⟨k + 1, o2, by go_num, by omega, by
            have e : A ++ txtL sep false (ks.take (k + 1)) = A ++ txtL sep false (ks.take k) ++ txt ks[k] := by
              rw [hsn]
              simp [ByteArray.append_assoc, empty_ba]
            rw [e]; exact h3, hst.trans h4⟩ : PLRel gp A o sep ks w (.int .i64 ((k : Int) + 1)) w2))
        have HK0 := Lib.hid hk0
        clear hp hst hput hfr hsn hemp hnv hSb hk0
        go_wp2_with fail
        refine HN1.out.mono ?_
        rintro e2 w2 ⟨rfl, o2, h3, h4⟩
        have HRR := Lib.hid (HE1.out o2 w2 h3 h4)
        clear HN1 HE1 h3 h4
        go_wp2
        go_roundw
        case rel => exact HRR.out
        case measure => simp [intOf]; omega
    · obtain rfl : k = ks.length := by omega
      rw [List.take_length] at hp
      have HP2 := Lib.hid hp
      clear hp
      go_wp2
      go_end0
      exact ⟨rfl, _, HP2.out, hst⟩

end Go.Proofs.YtilijbpbnlnhlaaGreat.Pr
