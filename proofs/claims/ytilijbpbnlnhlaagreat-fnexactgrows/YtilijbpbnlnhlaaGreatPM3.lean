/-
  THE NODES of a rule: when they can be made, and that their text is the rule's.
-/
import Derived.Test.YtilijbpbnlnhlaaGreatPI9
namespace Go.Proofs.YtilijbpbnlnhlaaGreat.Pr
open Go Go.RowKit Go.Maps Go.WideMaps

def noIt : It := ⟨0, ⟨#[]⟩, []⟩
/-- The nodes of the first i exps. -/
def nodesOf (es : List It) : Nat → List Nd
  | 0 => []
  | i + 1 => nodesOf es i ++ [nodeOf (es.getD i noIt) (kidsOf (nodesOf es i) (es.getD i noIt).xs)]
theorem nodesOf_length (es : List It) : ∀ i, (nodesOf es i).length = i
  | 0 => rfl
  | i + 1 => by rw [nodesOf, List.length_append, nodesOf_length es i]; rfl
def ruleNd (u : Ru) : Nd := .rule (litNode u.hd (kidsOf (nodesOf u.es u.es.length) u.hd.xs)) (u.bd.map fun l => litNode l (kidsOf (nodesOf u.es u.es.length) l.xs))

/-- What the builder asks. -/
structure MakeOk (u : Ru) : Prop where
  few : u.es.length ≤ 60
  head : u.hd.k = 1
  exps : ∀ j (h : j < u.es.length), TakeOk j (refs (u.es.take j)) u.es[j].xs ∧ kindOk u.es[j] = true
  hd : TakeOk u.es.length (refs u.es) u.hd.xs
  body : LitsOk u.es.length (refs u.es ++ u.hd.xs) u.bd
  all : ¬ false ∈ tkOf u.es.length (refs u.es ++ u.hd.xs ++ refs u.bd)
structure FormOk (u : Ru) : Prop where
  good : Good u.es (u.hd :: u.bd)
  head : u.hd.k = 1
  body : ∀ l ∈ u.bd, litOk l = true

theorem TakeOk.nodup {n : Nat} {R xs : List Int} (h : TakeOk n R xs) (hR : R.Nodup) : ∀ k, k ≤ xs.length → (R ++ xs.take k).Nodup
  | 0, _ => by rw [List.take_zero, List.append_nil]; exact hR
  | k + 1, hk => by
    have ih := TakeOk.nodup h hR k (by omega)
    have hx := (h k (by omega)).2.2
    rw [List.take_succ_eq_append_getElem (by omega), ← List.append_assoc]
    refine List.nodup_append.2 ⟨ih, by simp, ?_⟩
    intro a ha b hb
    rw [List.mem_singleton.1 hb]
    exact fun e => hx (e ▸ ha)
theorem TakeOk.nodup' {n : Nat} {R xs : List Int} (h : TakeOk n R xs) (hR : R.Nodup) : (R ++ xs).Nodup := by
  have := h.nodup hR xs.length (Nat.le_refl _)
  rwa [List.take_length] at this
theorem refs_nodup (es : List It) (h : ∀ j (h : j < es.length), TakeOk j (refs (es.take j)) es[j].xs) : ∀ i, i ≤ es.length → (refs (es.take i)).Nodup
  | 0, _ => by rw [List.take_zero]; exact List.nodup_nil
  | i + 1, hi => by
    have ih := refs_nodup es h i (by omega)
    rw [List.take_succ_eq_append_getElem (by omega), refs_append, refs_one]
    exact (h i (by omega)).nodup' ih
theorem lits_nodup {n : Nat} {R : List Int} (hR : R.Nodup) (ls : List It) (h : LitsOk n R ls) : ∀ i, i ≤ ls.length → (R ++ refs (ls.take i)).Nodup
  | 0, _ => by rw [List.take_zero, show refs ([] : List It) = [] from rfl, List.append_nil]; exact hR
  | i + 1, hi => by
    have ih := lits_nodup hR ls h i (by omega)
    rw [List.take_succ_eq_append_getElem (by omega), refs_append, refs_one, ← List.append_assoc]
    exact (h i (by omega)).1.nodup' ih
theorem refs_cons (a : It) (l : List It) : refs (a :: l) = a.xs ++ refs l := by simp [refs]

theorem nodup_count {x : Int} : ∀ {l : List Int}, l.Nodup → x ∈ l → l.count x = 1
  | a :: r, hn, hx => by
    obtain ⟨h1, h2⟩ := List.nodup_cons.1 hn
    rcases List.mem_cons.1 hx with rfl | hx
    · rw [List.count_cons_self, List.count_eq_zero.2 h1]
    · have hne : a ≠ x := fun e => h1 (by rw [e]; exact hx)
      rw [List.count_cons_of_ne hne, nodup_count h2 hx]
theorem MakeOk.form {u : Ru} (h : MakeOk u) : FormOk u := by
  have n1 : (refs u.es).Nodup := by
    have := refs_nodup u.es (fun j hj => (h.exps j hj).1) u.es.length (Nat.le_refl _)
    rwa [List.take_length] at this
  have n2 := h.hd.nodup' n1
  have n3 : (refs u.es ++ u.hd.xs ++ refs u.bd).Nodup := by
    have := lits_nodup n2 u.bd h.body u.bd.length (Nat.le_refl _)
    rwa [List.take_length] at this
  have hb : ∀ l ∈ u.bd, (∀ x ∈ l.xs, 0 ≤ x ∧ x < (u.es.length : Int)) ∧ litOk l = true := by
    intro l hl
    obtain ⟨j, hj, rfl⟩ := List.getElem_of_mem hl
    refine ⟨fun x hx => ?_, (h.body j hj).2⟩
    obtain ⟨k, hk, rfl⟩ := List.getElem_of_mem hx
    have := (h.body j hj).1 k hk
    exact ⟨this.1, this.2.1⟩
  refine ⟨⟨h.few, ?_, ?_, ?_, ?_⟩, h.head, fun l hl => (hb l hl).2⟩
  · intro i hi x hx
    obtain ⟨k, hk, rfl⟩ := List.getElem_of_mem hx
    have := (h.exps i hi).1 k hk
    exact ⟨this.1, this.2.1⟩
  · intro e he
    obtain ⟨j, hj, rfl⟩ := List.getElem_of_mem he
    exact (h.exps j hj).2
  · intro l hl x hx
    rcases List.mem_cons.1 hl with rfl | hl
    · obtain ⟨k, hk, rfl⟩ := List.getElem_of_mem hx
      have := h.hd k hk
      exact ⟨this.1, this.2.1⟩
    · exact (hb l hl).1 x hx
  · intro m hm
    rw [refs_cons, ← List.append_assoc]
    refine nodup_count n3 ?_
    apply Classical.byContradiction
    intro hno
    apply h.all
    unfold tkOf
    exact List.mem_map.2 ⟨m, List.mem_range.2 hm, decide_eq_false hno⟩

theorem not_before {x : Int} {L P Q : List Int} (hL : L = P ++ x :: Q) (hc : L.count x = 1) : x ∉ P := by
  intro hx
  rw [hL, List.count_append, List.count_cons_self] at hc
  have := List.count_pos_iff.2 hx
  omega
/-- Where each of a Good rule's places is named, it was not named before. -/
theorem FormOk.take {u : Ru} (h : FormOk u) {P xs Q : List Int} (hL : refs u.es ++ refs (u.hd :: u.bd) = P ++ xs ++ Q) (n : Nat) (hn : n ≤ u.es.length) (hx : ∀ x ∈ xs, 0 ≤ x ∧ x < (n : Int)) : TakeOk n P xs := by
  intro k hk
  have hb := hx _ (List.getElem_mem hk)
  refine ⟨hb.1, hb.2, ?_⟩
  obtain ⟨m, hm⟩ := Int.eq_ofNat_of_zero_le hb.1
  have hc := h.good.once m (by omega)
  refine not_before (L := refs u.es ++ refs (u.hd :: u.bd)) (Q := xs.drop (k + 1) ++ Q) ?_ (by rw [hm]; exact hc)
  rw [hL, List.append_assoc, List.append_assoc]
  congr 1
  have e : xs.take k ++ xs[k] :: xs.drop (k + 1) = xs := by rw [← List.drop_eq_getElem_cons hk, List.take_append_drop]
  have e2 := congrArg (· ++ Q) e
  simp only [List.append_assoc, List.cons_append] at e2
  exact e2.symm
theorem refs_split (l : List It) (j : Nat) (h : j < l.length) : refs l = refs (l.take j) ++ l[j].xs ++ refs (l.drop (j + 1)) := by
  conv => lhs; rw [← List.take_append_drop j l, List.drop_eq_getElem_cons h]
  rw [refs_append, refs_cons, List.append_assoc]
theorem FormOk.make {u : Ru} (h : FormOk u) : MakeOk u := by
  have harg := h.good.arg
  refine ⟨h.good.few, h.head, ?_, ?_, ?_, ?_⟩
  · intro j hj
    refine ⟨h.take (Q := refs (u.es.drop (j + 1)) ++ refs (u.hd :: u.bd)) ?_ j (by omega) (fun x hx => h.good.kid j hj x hx), h.good.kind _ (List.getElem_mem hj)⟩
    rw [refs_split u.es j hj, List.append_assoc]
  · refine h.take (Q := refs u.bd) ?_ _ (Nat.le_refl _) (fun x hx => harg u.hd (by simp) x hx)
    rw [refs_cons, List.append_assoc]
  · intro j hj
    refine ⟨h.take (Q := refs (u.bd.drop (j + 1))) ?_ _ (Nat.le_refl _) (fun x hx => harg u.bd[j] (by simp) x hx), h.body _ (List.getElem_mem hj)⟩
    rw [refs_cons, refs_split u.bd j hj]
    simp [List.append_assoc]
  · intro hf
    obtain ⟨m, hm, he⟩ := List.mem_map.1 hf
    have hm' := List.mem_range.1 hm
    have hc := h.good.once m hm'
    rw [refs_cons, ← List.append_assoc] at hc
    exact (of_decide_eq_false he) (List.count_pos_iff.1 (by omega))
theorem make_iff (u : Ru) : MakeOk u ↔ FormOk u := ⟨MakeOk.form, FormOk.make⟩

theorem getD_txt (ns : List Nd) (i : Nat) : (ns.map txt).getD i ⟨#[]⟩ = txt (ns.getD i (.word ⟨#[]⟩)) := by
  rw [List.getD_eq_getElem?_getD, List.getD_eq_getElem?_getD, List.getElem?_map]
  cases ns[i]? with
  | none => simp only [Option.map_none, Option.getD_none, txt]
  | some n => rfl
theorem listTxt_lit (ns : List Nd) (s : BA) : ∀ (k : Nat) (xs : List Int), k ≤ xs.length → (listTxt fLit (ns.map txt) s (xs.take k)).1 = s ++ txtL ⟨#[44, 32]⟩ false (kidsOf ns (xs.take k))
  | 0, xs, _ => by
    rw [List.take_zero]
    show s = s ++ txtL _ _ []
    rw [txtL, ba_empty]
  | k + 1, xs, h => by
    rw [List.take_succ_eq_append_getElem (by omega), listTxt_snoc, listTxt_snd fLit (ns.map txt) s xs k (by omega)]
    simp only [kidsOf, List.map_append, List.map_cons, List.map_nil]
    rw [txtL_snoc, getD_txt, listTxt_lit ns s k xs (by omega)]
    cases k with
    | zero => simp [fLit, kidsOf, txtL, ba_empty, empty_ba]
    | succ k =>
      have hne : ((xs.take (k + 1)).map fun x => ns.getD x.toNat (.word ⟨#[]⟩)).isEmpty = false := by
        cases xs with
        | nil => simp at h
        | cons a r => rfl
      rw [hne]
      simp [fLit, kidsOf, ByteArray.append_assoc]
theorem listTxt_con (ns : List Nd) (s : BA) : ∀ (k : Nat) (xs : List Int), k ≤ xs.length → 0 < k → (listTxt fCon (ns.map txt) s (xs.take k)).1 = s ++ (⟨#[40]⟩ ++ txtL ⟨#[44, 32]⟩ false (kidsOf ns (xs.take k)))
  | k + 1, xs, h, _ => by
    rw [List.take_succ_eq_append_getElem (by omega), listTxt_snoc, listTxt_snd fCon (ns.map txt) s xs k (by omega)]
    simp only [kidsOf, List.map_append, List.map_cons, List.map_nil]
    rw [txtL_snoc, getD_txt]
    cases k with
    | zero => simp [fCon, listTxt, txtL, ByteArray.append_assoc, empty_ba]
    | succ k =>
      rw [listTxt_con ns s (k + 1) xs (by omega) (by omega)]
      have hne : ((xs.take (k + 1)).map fun x => ns.getD x.toNat (.word ⟨#[]⟩)).isEmpty = false := by
        cases xs with
        | nil => simp at h
        | cons a r => rfl
      rw [hne]
      simp [fCon, kidsOf, ByteArray.append_assoc]
theorem conTxt_eq (ns : List Nd) (s : BA) (xs : List Int) : txt (.con s (kidsOf ns xs)) = conTxt (ns.map txt) s xs := by
  rw [txt]
  unfold conTxt
  cases xs with
  | nil => rfl
  | cons a r =>
    have h := listTxt_con ns s (a :: r).length (a :: r) (Nat.le_refl _) (by simp)
    rw [List.take_length] at h
    rw [h]
    have e1 : (kidsOf ns (a :: r)).isEmpty = false := rfl
    have e2 : (a :: r).isEmpty = false := rfl
    rw [e1, e2]
    simp [ByteArray.append_assoc]
theorem litTxt_eq (ns : List Nd) (l : It) (hl : litOk l = true) : txt (litNode l (kidsOf ns l.xs)) = litTxt (ns.map txt) l := by
  unfold litNode litTxt
  have h := listTxt_lit ns (if l.k = 2 then ⟨#[33]⟩ ++ (l.s ++ ⟨#[40]⟩) else l.s ++ ⟨#[40]⟩) l.xs.length l.xs (Nat.le_refl _)
  rw [List.take_length] at h
  rw [h]
  by_cases h1 : l.k = 1
  · rw [if_pos h1, if_neg (by omega), if_neg (by omega), txt]
    simp [ByteArray.append_assoc, empty_ba]
  · by_cases h2 : l.k = 2
    · rw [if_neg h1, if_pos h2, if_neg (by omega), if_pos h2, txt]
      simp [ByteArray.append_assoc]
    · have h3 : l.k = 3 ∧ l.xs.length = 2 := by
        unfold litOk at hl
        simp only [h1, h2, decide_false, Bool.false_or, Bool.and_eq_true, decide_eq_true_eq] at hl
        exact hl
      rw [if_neg h1, if_neg h2, if_pos h3.1, txt]
      obtain ⟨a, b, hab⟩ : ∃ a b, l.xs = [a, b] := by
        rcases h : l.xs with _ | ⟨a, _ | ⟨b, _ | _⟩⟩ <;> rw [h] at h3 <;> simp at h3
        exact ⟨a, b, rfl⟩
      rw [hab, getD_txt, getD_txt]
      simp [kidsOf, ByteArray.append_assoc]
theorem bodyTxt_eq (ns : List Nd) (h : BA) : ∀ (k : Nat) (ls : List It), k ≤ ls.length → (∀ l ∈ ls, litOk l = true) → (bodyTxt (ns.map txt) h (ls.take k)).1 = h ++ (if k = 0 then ⟨#[]⟩ else ⟨#[32, 58, 45, 32]⟩ ++ txtL ⟨#[44, 32]⟩ false ((ls.take k).map fun l => litNode l (kidsOf ns l.xs)))
  | 0, ls, _, _ => by rw [if_pos rfl, ba_empty]; rfl
  | k + 1, ls, hk, hl => by
    rw [List.take_succ_eq_append_getElem (by omega), bodyTxt_snoc, bodyTxt_snd (ns.map txt) h ls k (by omega), bodyTxt_eq ns h k ls (by omega) hl, ← litTxt_eq ns ls[k] (hl _ (List.getElem_mem (by omega)))]
    simp only [List.map_append, List.map_cons, List.map_nil]
    rw [txtL_snoc]
    cases k with
    | zero => simp [txtL, ByteArray.append_assoc, empty_ba, ba_empty]
    | succ k =>
      have hne : ((ls.take (k + 1)).map fun l => litNode l (kidsOf ns l.xs)).isEmpty = false := by
        cases ls with
        | nil => simp at hk
        | cons a r => rfl
      rw [hne]
      simp [ByteArray.append_assoc]

theorem sign_eq : ((⟨#[32]⟩ : BA) ++ ((⟨#[43]⟩ : BA) ++ (⟨#[32]⟩ : BA)) = ⟨#[32, 43, 32]⟩) ∧ ((⟨#[32]⟩ : BA) ++ ((⟨#[45]⟩ : BA) ++ (⟨#[32]⟩ : BA)) = ⟨#[32, 45, 32]⟩) ∧ ((⟨#[32]⟩ : BA) ++ ((⟨#[42]⟩ : BA) ++ (⟨#[32]⟩ : BA)) = ⟨#[32, 42, 32]⟩) := ⟨by decide, by decide, by decide⟩
/-- The nodes' texts are the exps'. -/
theorem nodes_txt (es : List It) (hkid : ∀ i (h : i < es.length), ∀ x ∈ es[i].xs, 0 ≤ x ∧ x < (i : Int)) (hkind : ∀ i (h : i < es.length), kindOk es[i] = true) : ∀ i, i ≤ es.length → (nodesOf es i).map txt = txts es i ∧ ∀ j (h : j < es.length), j < i → ((nodesOf es i).getD j (.word ⟨#[]⟩)).isPair = isSum es[j].k
  | 0, _ => ⟨rfl, fun j h hj => by omega⟩
  | i + 1, hi => by
    obtain ⟨ih1, ih2⟩ := nodes_txt es hkid hkind i (by omega)
    have hg : es.getD i noIt = es[i] := by simp [List.getD, show i < es.length by omega]
    have hg' : es.getD i ⟨0, ⟨#[]⟩, []⟩ = es[i] := hg
    have hkd := hkid i (by omega)
    have hko := hkind i (by omega)
    obtain ⟨e, he⟩ : ∃ e, es[i] = e := ⟨_, rfl⟩
    rw [he] at hg hg' hkd hko
    have hside : ∀ x ∈ e.xs, side es (txts es i) x = opTxt ((nodesOf es i).getD x.toNat (.word ⟨#[]⟩)) := by
      intro x hx
      have hb := hkd x hx
      have hlt : x.toNat < es.length := by omega
      unfold side opTxt
      rw [List.getElem?_eq_getElem hlt, ih2 x.toNat hlt (by omega), ← ih1, getD_txt]
      simp [ByteArray.append_assoc]
    have hnode : txt (nodeOf e (kidsOf (nodesOf es i) e.xs)) = expTxt es (txts es i) e ∧ (nodeOf e (kidsOf (nodesOf es i) e.xs)).isPair = isSum e.k := by
      have hpair : ∀ (sg : BA) (s3 : BA), isSum e.k = true → (⟨#[32]⟩ : BA) ++ (sg ++ (⟨#[32]⟩ : BA)) = s3 → txt (.pair sg ((kidsOf (nodesOf es i) e.xs).getD 0 (.word ⟨#[]⟩)) ((kidsOf (nodesOf es i) e.xs).getD 1 (.word ⟨#[]⟩))) = side es (txts es i) (e.xs.getD 0 0) ++ s3 ++ side es (txts es i) (e.xs.getD 1 0) := by
        intro sg s3 hs hsg
        have h57 : 5 ≤ e.k ∧ e.k ≤ 7 := by simpa [isSum] using hs
        have h2 : e.xs.length = 2 := by
          unfold kindOk at hko
          have a1 : ¬ (1 ≤ e.k ∧ e.k ≤ 3) := by omega
          simp only [hs, Bool.or_eq_true, Bool.and_eq_true, decide_eq_true_eq, true_and] at hko
          omega
        obtain ⟨a, b, hab⟩ : ∃ a b, e.xs = [a, b] := by
          rcases h : e.xs with _ | ⟨a, _ | ⟨b, _ | _⟩⟩ <;> rw [h] at h2 <;> simp at h2
          exact ⟨a, b, rfl⟩
        have sa := hside a (by rw [hab]; simp)
        have sb := hside b (by rw [hab]; simp)
        rw [hab]
        simp only [kidsOf, List.map_cons, List.map_nil, List.getD_cons_zero, List.getD_cons_succ]
        rw [sa, sb, txt, ← hsg]
        unfold opTxt
        simp [ByteArray.append_assoc]
      unfold nodeOf expTxt
      by_cases k2 : e.k = 2
      · rw [if_pos k2, if_pos k2]
        exact ⟨by rw [txt], by simp [Nd.isPair, isSum, k2]⟩
      rw [if_neg k2, if_neg k2]
      by_cases k4 : e.k = 4
      · rw [if_pos k4, if_pos k4]
        exact ⟨by rw [conTxt_eq, ih1], by simp [Nd.isPair, isSum, k4]⟩
      rw [if_neg k4, if_neg k4]
      by_cases k5 : e.k = 5
      · have hs : isSum e.k = true := by simp [isSum, k5]
        rw [if_pos k5, if_pos hs, hpair _ _ hs sign_eq.1]
        exact ⟨by simp [signTxt, k5], by simp [Nd.isPair, hs]⟩
      rw [if_neg k5]
      by_cases k6 : e.k = 6
      · have hs : isSum e.k = true := by simp [isSum, k6]
        rw [if_pos k6, if_pos hs, hpair _ _ hs sign_eq.2.1]
        exact ⟨by simp [signTxt, k6], by simp [Nd.isPair, hs]⟩
      rw [if_neg k6]
      by_cases k7 : e.k = 7
      · have hs : isSum e.k = true := by simp [isSum, k7]
        rw [if_pos k7, if_pos hs, hpair _ _ hs sign_eq.2.2]
        exact ⟨by simp [signTxt, k7], by simp [Nd.isPair, hs]⟩
      have hs : isSum e.k = false := by
        unfold isSum
        by_cases h5 : 5 ≤ e.k
        · have : ¬ e.k ≤ 7 := by omega
          simp [this]
        · simp [h5]
      rw [if_neg k7, if_neg (by rw [hs]; simp), hs]
      exact ⟨by rw [txt], rfl⟩
    refine ⟨?_, ?_⟩
    · rw [nodesOf, txts, List.map_append, ih1, hg, hg', ← hnode.1]
      rfl
    · intro j hj hji
      have hl := nodesOf_length es i
      rw [nodesOf, List.getD_eq_getElem?_getD]
      by_cases hlt : j < i
      · rw [List.getElem?_append_left (by omega)]
        have := ih2 j hj hlt
        rw [List.getD_eq_getElem?_getD] at this
        exact this
      · obtain rfl : j = i := by omega
        rw [List.getElem?_append_right (by omega), hl, Nat.sub_self, hg, he]
        exact hnode.2
theorem rule_txt (u : Ru) (h : FormOk u) : txt (ruleNd u) = ruleTxt u := by
  have hn := (nodes_txt u.es h.good.kid (fun i hi => h.good.kind _ (List.getElem_mem hi)) u.es.length (Nat.le_refl _)).1
  unfold ruleNd ruleTxt
  rw [txt, ← hn, ← litTxt_eq _ u.hd (by simp [litOk, h.head])]
  have hb := bodyTxt_eq (nodesOf u.es u.es.length) (txt (litNode u.hd (kidsOf (nodesOf u.es u.es.length) u.hd.xs))) u.bd.length u.bd (Nat.le_refl _) h.body
  rw [List.take_length] at hb
  rw [hb]
  cases u.bd with
  | nil => simp [ByteArray.append_assoc]
  | cons a r => simp [ByteArray.append_assoc]
theorem ruleOk_iff (u : Ru) : RuleOk u ↔ FormOk u ∧ (ruleTxt u).size ≤ 3000 := ⟨fun h => ⟨⟨h.good, h.head, h.body⟩, h.short⟩, fun h => ⟨h.1.good, h.1.head, h.1.body, h.2⟩⟩

end Go.Proofs.YtilijbpbnlnhlaaGreat.Pr
