/-
  THE BINDER of impl/l06_grounded.go as memory: the rule, the names of it, the names that are bound; hasValue and bind.
-/
import Derived.Test.YtilijbpbnlnhlaaGreatPW2
namespace Go.Proofs.YtilijbpbnlnhlaaGreat.Pr
open Go Go.RowKit Go.Maps Go.WideMaps Go.Sort Go.Proofs

open Classical in
/-- Those of the rule's names that are in out, with their places. -/
noncomputable def sel (es : List It) (out : List ByteArray) : List (ByteArray × Nat) := (allNamed es).filter fun p => decide (p.1 ∈ out)
theorem mem_sel {es : List It} {out : List ByteArray} {p : ByteArray × Nat} : p ∈ sel es out ↔ p ∈ allNamed es ∧ p.1 ∈ out := by
  classical
  unfold sel
  rw [List.mem_filter, decide_eq_true_eq]
theorem sel_congr {es : List It} {out out' : List ByteArray} (h : ∀ x, x ∈ out ↔ x ∈ out') : sel es out = sel es out' := by
  classical
  unfold sel
  refine List.filter_congr fun p _ => ?_
  rw [decide_eq_decide]
  exact h p.1
theorem sel_sub (es : List It) (out : List ByteArray) : (sel es out).Sublist (allNamed es) := List.filter_sublist
theorem allNamed_apart (es : List It) : (allNamed es).Pairwise (fun p q => p.1 ≠ q.1) := named_apart _ _
theorem allNamed_one {es : List It} {p q : ByteArray × Nat} (hp : p ∈ allNamed es) (hq : q ∈ allNamed es) (h : p.1 = q.1) : p = q := by
  rcases pairwise_mem (allNamed_apart es) p hp q hq with e | e | e
  · exact e
  · exact absurd h e
  · exact absurd h.symm e
theorem allNamed_len (es : List It) : (allNamed es).length ≤ es.length := by
  have := allNames_len es
  rwa [allNames, List.length_map] at this
theorem sel_ranked {u : Ru} (hw : u.wt ≤ 1048576) (hl : u.es.length ≤ 1048576) (out : List ByteArray) : Ranked (sel u.es out) := by
  have h := ranked_named (u := u) hw (P := List.range u.es.length) List.pairwise_lt_range (fun m hm => by simpa using hm) (by simpa using hl)
  exact ⟨h.apart.sublist (sel_sub _ _), h.rise.sublist (sel_sub _ _), fun p hp => h.small p ((sel_sub _ _).subset hp), Nat.le_trans (sel_sub _ _).length_le h.few⟩
theorem sel_len {es : List It} {out : List ByteArray} (h1 : out.Nodup) (h2 : ∀ x ∈ out, x ∈ allNames es) : (sel es out).length = out.length := by
  have hp : ((sel es out).map Prod.fst).Perm out := by
    refine (List.perm_ext_iff_of_nodup (List.pairwise_map.2 ((allNamed_apart es).sublist (sel_sub es out))) h1).2 fun x => ?_
    rw [List.mem_map]
    constructor
    · rintro ⟨p, hp, rfl⟩
      exact (mem_sel.1 hp).2
    · intro hx
      obtain ⟨p, hp, e⟩ := List.mem_map.1 (h2 x hx)
      exact ⟨p, mem_sel.2 ⟨hp, by rw [e]; exact hx⟩, e⟩
  have := hp.length_eq
  rwa [List.length_map] at this

/-! ### Maps of names -/
theorem own_tight {w : World} {R : Value → Option (DataW Unit × List MemPlace)} {b n m : Nat} {D : DataW Unit} (h : w.ownsMap Tryz.prog 9 R b n D) (hm : Maps.size D ≤ m) : w.ownsMap Tryz.prog 9 R b m D := by
  obtain ⟨es, clock, h1, h2, _, rfl⟩ := h
  refine ⟨es, clock, h1, h2, ?_, rfl⟩
  rwa [size_eq, length_read] at hm
theorem NameMap.size {w : World} {R : Value → Option (DataW Unit × List MemPlace)} {b n : Nat} {D : DataW Unit} {l : List (ByteArray × Nat)} (h : NameMap D l) (hown : w.ownsMap Tryz.prog 9 R b n D) (ha : l.Pairwise (fun p q => p.1 ≠ q.1)) : Maps.size D = l.length := by
  obtain ⟨es, hD, hpw, _⟩ := hown.entries lawS
  obtain ⟨es', hD', hko⟩ := hown.keysOf
  obtain rfl : es = es' := by rw [hD] at hD'; simpa using hD'
  subst hD
  have hnd : ((l.map Prod.fst).map lst).Nodup := by
    refine List.pairwise_map.2 (List.pairwise_map.2 (ha.imp fun h e => h (lst_inj e)))
  have hp := perm_strKeys hpw (fun p hp => by obtain ⟨v, hv⟩ := hko p hp; obtain ⟨x, _, hx, _⟩ := Maps.keyOf_str Tryz.underlying9 hv; exact ⟨x, hx⟩) hnd (fun x => by
    have hi := h.has_iff ⟨x.toArray⟩
    rw [show lst ⟨x.toArray⟩ = x from rfl] at hi
    rw [hi, List.mem_map]
    constructor
    · rintro ⟨y, hy, e⟩
      obtain ⟨p, hp, rfl⟩ := List.mem_map.1 hy
      exact ⟨p, hp, lst_inj e⟩
    · rintro ⟨p, hp, e⟩
      exact ⟨p.1, List.mem_map.2 ⟨p, hp, rfl⟩, by rw [e]⟩)
  have h2 := hp.length_eq
  rw [List.length_map, List.length_map] at h2
  rw [size_eq, h2]
  show es.length = (es.map _).length
  rw [List.length_map]
/-- A name of the rule is stored with its place. -/
theorem NameMap.store {es : List It} {D : DataW Unit} {out : List ByteArray} (h : NameMap D (sel es out)) {p : ByteArray × Nat} (hp : p ∈ allNamed es) (hs : p.1.size ≤ 1048576) : NameMap (D.put (.string (lst p.1)) (.lit (.int .i64 (p.2 : Int)))) (sel es (addN out p.1)) := by
  have hk := lawS.key (keyS hs)
  have hne : ∀ t : ByteArray, t ≠ p.1 → (Lit.string (lst t)) ≠ .string (lst p.1) := fun t ht e => ht (lst_inj (by simpa using e))
  refine ⟨h.isMap.put _ _, fun q hq => ?_, fun t ht => ?_⟩
  · obtain ⟨hq1, hq2⟩ := mem_sel.1 hq
    by_cases e : q.1 = p.1
    · obtain rfl := allNamed_one hq1 hp e
      exact ⟨has_put_same h.isMap hk _, fun z => atKey_put_same h.isMap hk _ z⟩
    · have hqo : q ∈ sel es out := mem_sel.2 ⟨hq1, (mem_addN.1 hq2).resolve_right e⟩
      rw [has_put_other (hne _ e)]
      exact ⟨(h.hit q hqo).1, fun z => by rw [atKey_put_other (hne _ e)]; exact (h.hit q hqo).2 z⟩
  · have h1 : p.1 ≠ t := ht p (mem_sel.2 ⟨hp, mem_addN.2 (.inr rfl)⟩)
    rw [has_put_other (hne _ (fun e => h1 e.symm))]
    exact h.miss t (fun q hq => ht q (by
      obtain ⟨hq1, hq2⟩ := mem_sel.1 hq
      exact mem_sel.2 ⟨hq1, mem_addN.2 (.inl hq2)⟩))

/-! ### The binder -/
/-- What a side must be that binds: the method that the binder bears. -/
def kfun : Bool → Value
  | false => .func (.func 54) #[] #[]
  | true => .func (.func 61) #[] #[]
/-- A binder's rule, as it lies; its block; the blocks of its two maps. -/
structure Bx where
  u : Ru
  aes : Option Addr
  ces : Nat
  ahd : Option Addr
  chd : Nat
  abd : Option Addr
  cbd : Nat
  S : Nat → Prop
  gb : Nat
  mn : Nat
  mb : Nat
  K : Bool
  tree : TreeOk u.es
  wt : u.wt ≤ 1048576
  ok : RuleOk u
structure Bx.At (c : Bx) (out : List ByteArray) (w : World) : Prop where
  blk : w.heap[c.gb]? = some (.cells #[.slice c.aes c.u.es.length c.ces, .int .i64 c.u.hd.k, .string c.u.hd.s, .slice c.ahd c.u.hd.xs.length c.chd, .slice c.abd c.u.bd.length c.cbd, kfun c.K, .map (some c.mn), .map (some c.mb)] 81 (0, 0))
  rule : FRu c.S w [.slice c.aes c.u.es.length c.ces, .int .i64 c.u.hd.k, .string c.u.hd.s, .slice c.ahd c.u.hd.xs.length c.chd, .slice c.abd c.u.bd.length c.cbd] c.u
  sub : ∀ b, c.S b → b < w.heap.size ∧ b ≠ c.mb
  names : ∃ n D, NameMap D (allNamed c.u.es) ∧ w.ownsMap Tryz.prog 9 (plainElem Tryz.prog 3) c.mn n D
  bound : ∃ D, NameMap D (sel c.u.es out) ∧ w.ownsMap Tryz.prog 9 (plainElem Tryz.prog 3) c.mb 60 D
  ne : c.mn ≠ c.mb
theorem grown_none {w w' : World} (h : Below w.heap.size w w') : w.grownBy w' none := ⟨h.os, h.tape, h.output, h.size, fun k hk _ => h.block k hk⟩
theorem grown_below {w w' : World} {m B : Nat} (h : w.grownBy w' (some m)) (hB : B ≤ w.heap.size) (hm : B ≤ m) : Below B w w' := ⟨h.os, h.tape, h.output, h.size, fun k hk => h.block k (by omega) (fun e => by cases e; omega)⟩
theorem Bx.At.lt {c : Bx} {out : List ByteArray} {w : World} (h : c.At out w) : c.mb < w.heap.size := by
  obtain ⟨D, _, ho⟩ := h.bound
  exact ho.lt
theorem Bx.At.gb_ne {c : Bx} {out : List ByteArray} {w : World} (h : c.At out w) : c.gb ≠ c.mb := by
  obtain ⟨D, _, es, clock, h1, _⟩ := h.bound
  intro e
  have := h.blk
  rw [e, h1] at this
  cases this
theorem Bx.At.below {c : Bx} {out : List ByteArray} {w w' : World} (h : c.At out w) (hb : Below w.heap.size w w') : c.At out w' := by
  obtain ⟨n, D, h1, h2⟩ := h.names
  obtain ⟨D', h3, h4⟩ := h.bound
  exact ⟨(hb.block _ (lt_of_block h.blk)).trans h.blk, FRu_keeps.1 _ _ _ _ _ h.rule (Same.below (fun b hb => (h.sub b hb).1) hb), fun b hs => ⟨Nat.lt_of_lt_of_le (h.sub b hs).1 hb.size, (h.sub b hs).2⟩, ⟨n, D, h1, h2.kept (grown_none hb) (by simp)⟩, ⟨D', h3, h4.kept (grown_none hb) (by simp)⟩, h.ne⟩
theorem Bx.At.congr {c : Bx} {out out' : List ByteArray} {w : World} (h : c.At out w) (he : ∀ x, x ∈ out ↔ x ∈ out') : c.At out' w := by
  obtain ⟨D', h3, h4⟩ := h.bound
  exact ⟨h.blk, h.rule, h.sub, h.names, ⟨D', by rw [← sel_congr he]; exact h3, h4⟩, h.ne⟩
theorem Bx.At.store {c : Bx} {out : List ByteArray} {w w' : World} (h : c.At out w) {p : ByteArray × Nat} (hp : p ∈ allNamed c.u.es) (hs : p.1.size ≤ 1048576) {D : DataW Unit} (hN : NameMap D (sel c.u.es out)) (hg : w.grownBy w' (some c.mb)) (hown : w'.ownsMap Tryz.prog 9 (plainElem Tryz.prog 3) c.mb 61 (D.put (.string (lst p.1)) (.lit (.int .i64 (p.2 : Int))))) : c.At (addN out p.1) w' := by
  obtain ⟨n, D1, h1, h2⟩ := h.names
  have hN' := hN.store hp hs
  have hsz : Maps.size (D.put (.string (lst p.1)) (.lit (.int .i64 (p.2 : Int)))) ≤ 60 := by
    rw [hN'.size hown ((allNamed_apart _).sublist (sel_sub _ _))]
    have h1 := (sel_sub c.u.es (addN out p.1)).length_le
    have h2 := allNamed_len c.u.es
    have h3 := c.tree.few
    omega
  refine ⟨(hg.block _ (lt_of_block h.blk) (fun e => h.gb_ne (by have := Option.some.inj e; omega))).trans h.blk, FRu_keeps.1 _ _ _ _ _ h.rule (fun b hb => hg.block b (h.sub b hb).1 (fun e => (h.sub b hb).2 (by have := Option.some.inj e; omega))), fun b hb => ⟨Nat.lt_of_lt_of_le (h.sub b hb).1 hg.size, (h.sub b hb).2⟩, ⟨n, D1, h1, h2.kept hg (fun e => h.ne (by have := Option.some.inj e; omega))⟩, ⟨_, hN', own_tight hown hsz⟩, h.ne⟩
theorem Bx.small (c : Bx) {p : ByteArray × Nat} (hp : p ∈ allNamed c.u.es) : p.1.size ≤ 1048576 := by
  have hl : c.u.es.length ≤ 1048576 := by have := c.tree.few; omega
  exact (ranked_named (u := c.u) c.wt (P := List.range c.u.es.length) List.pairwise_lt_range (fun m hm => by simpa using hm) (by simpa using hl)).small p hp

end Go.Proofs.YtilijbpbnlnhlaaGreat.Pr
