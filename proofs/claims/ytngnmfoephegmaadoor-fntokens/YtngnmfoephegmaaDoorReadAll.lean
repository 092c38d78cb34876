/-
  THE WALKS over readConstructor, readArgs, readTerm, read: by one induction.
-/
import Derived.Test.YtngnmfoephegmaaDoorReadSym
namespace Go.Proofs.YtngnmfoephegmaaDoor
open Go Go.RowKit Go.Maps Go.WideMaps

/-- In the store, place i is the term t. -/
inductive At (ns : List Nd) (cs : List Cl) : Nat → Tm → Prop
  | num (i : Nat) (n : Int) (h : ns[i]? = some ⟨1, ⟨#[]⟩, n, 0⟩) : At ns cs i (.num n)
  | sym (i : Nat) (y : List UInt8) (h : ns[i]? = some ⟨2, ⟨(34 :: y ++ [34]).toArray⟩, 0, 0⟩) : At ns cs i (.sym y)
  | con (i : Nat) (name : ByteArray) (args : List Tm) (l : Nat) (is : List Nat) (h : ns[i]? = some ⟨3, name, 0, l⟩) (hl : ListAt cs l is) (hlen : is.length = args.length)
      (ha : ∀ (k j : Nat) (t : Tm), is[k]? = some j → args[k]? = some t → At ns cs j t) : At ns cs i (.con (lst name) args)

theorem At.mono {ns ns' : List Nd} {cs cs' : List Cl} (hn : Ext ns ns') (hc : Ext cs cs') {i : Nat} {t : Tm} (h : At ns cs i t) : At ns' cs' i t := by
  induction h with
  | num i n h => exact .num i n (hn.get _ _ h)
  | sym i y h => exact .sym i y (hn.get _ _ h)
  | con i name args l is h hl hlen ha ih => exact .con i name args l is (hn.get _ _ h) (hl.mono hc.get) hlen ih
theorem At.lt {ns : List Nd} {cs : List Cl} {i : Nat} {t : Tm} (h : At ns cs i t) : i < ns.length := by
  cases h with
  | num i n h => exact (List.getElem?_eq_some_iff.1 h).1
  | sym i y h => exact (List.getElem?_eq_some_iff.1 h).1
  | con i name args l is h hl hlen ha => exact (List.getElem?_eq_some_iff.1 h).1

/-- The places of a list of terms. -/
def Ats (ns : List Nd) (cs : List Cl) (is : List Nat) (ts : List Tm) : Prop := is.length = ts.length ∧ ∀ (k j : Nat) (t : Tm), is[k]? = some j → ts[k]? = some t → At ns cs j t

theorem Ats.mono {ns ns' : List Nd} {cs cs' : List Cl} (hn : Ext ns ns') (hc : Ext cs cs') {is : List Nat} {ts : List Tm} (h : Ats ns cs is ts) : Ats ns' cs' is ts :=
  ⟨h.1, fun k j t a b => (h.2 k j t a b).mono hn hc⟩
theorem Ats.nil {ns : List Nd} {cs : List Cl} : Ats ns cs [] [] := ⟨rfl, fun k j t a b => by simp at a⟩
theorem Ats.snoc {ns : List Nd} {cs : List Cl} {is : List Nat} {ts : List Tm} {i : Nat} {t : Tm} (h : Ats ns cs is ts) (h1 : At ns cs i t) : Ats ns cs (is ++ [i]) (ts ++ [t]) := by
  refine ⟨by simp [h.1], fun k j u a b => ?_⟩
  by_cases hk : k < is.length
  · rw [List.getElem?_append_left hk] at a
    rw [List.getElem?_append_left (by rw [← h.1]; exact hk)] at b
    exact h.2 k j u a b
  · have hk' : k = is.length := by
      have := (List.getElem?_eq_some_iff.1 a).1
      simp at this; omega
    subst hk'
    rw [h.1] at b
    simp at a b
    rw [← a, ← b]; exact h1
theorem Ats.lt {ns : List Nd} {cs : List Cl} {is : List Nat} {ts : List Tm} (h : Ats ns cs is ts) : ∀ x ∈ is, x < ns.length := by
  intro x hx
  obtain ⟨k, hk, rfl⟩ := List.getElem_of_mem hx
  exact (h.2 k is[k] (ts[k]'(by rw [← h.1]; exact hk)) (List.getElem?_eq_getElem hk) (List.getElem?_eq_getElem _)).lt

/-- What a reader of one term answers: by what 'r' says; C bounds the store. -/
def TermPost (base b : Nat) (ns : List Nd) (cs : List Cl) (s : ByteArray) (C : Nat) (r : Option (Tm × List UInt8)) (p : Nat) (w : World) (e : Ending) (w' : World) : Prop :=
  (r = none ∧ e = .returned (.tuple #[.int .i64 0, .int .i64 0, .bool false]) ∧ ∃ (ns' : List Nd) (cs' : List Cl), Ext ns ns' ∧ Ext cs cs' ∧ ns'.length ≤ C + s.size ∧ cs'.length ≤ C + s.size ∧ StoreAt w' base b ns' cs' ∧ Fr base w w') ∨
  (∃ (t : Tm) (q i : Nat) (ns' : List Nd) (cs' : List Cl), r = some (t, (lst s).drop q) ∧ p < q ∧ q ≤ s.size ∧ e = .returned (.tuple #[.int .i64 (i : Int), .int .i64 (q : Int), .bool true]) ∧
    At ns' cs' i t ∧ Ext ns ns' ∧ Ext cs cs' ∧ ns'.length ≤ C + q ∧ cs'.length ≤ C + q ∧ StoreAt w' base b ns' cs' ∧ Fr base w w')

/-- What readArgs answers. -/
def ArgsPost (base b : Nat) (ns : List Nd) (cs : List Cl) (s : ByteArray) (C : Nat) (r : Option (List Tm × List UInt8)) (p : Nat) (w : World) (e : Ending) (w' : World) : Prop :=
  (r = none ∧ e = .returned (.tuple #[.slice none 0 0, .int .i64 0, .bool false]) ∧ ∃ (ns' : List Nd) (cs' : List Cl), Ext ns ns' ∧ Ext cs cs' ∧ ns'.length ≤ C + s.size ∧ cs'.length ≤ C + s.size ∧ StoreAt w' base b ns' cs' ∧ Fr base w w') ∨
  (∃ (ts : List Tm) (q : Nat) (v : Value) (is : List Nat) (ns' : List Nd) (cs' : List Cl), r = some (ts, (lst s).drop q) ∧ p < q ∧ q ≤ s.size ∧ e = .returned (.tuple #[v, .int .i64 (q : Int), .bool true]) ∧
    w'.ownsRow w.heap.size 3 1 v is.length (intCells is) ∧ Ats ns' cs' is ts ∧ 1 ≤ is.length ∧ is.length + p ≤ q ∧ Ext ns ns' ∧ Ext cs cs' ∧ ns'.length + is.length ≤ C + q ∧ cs'.length + is.length ≤ C + q ∧ StoreAt w' base b ns' cs' ∧ Fr base w w')

def TermSaid (f : Nat) : Prop := ∀ (base b : Nat) (ns : List Nd) (cs : List Cl) (s : ByteArray) (p C : Nat) (w : World), s.size ≤ 200 → p ≤ s.size → StoreAt w base b ns cs → Env base w → ns.length ≤ C + p → cs.length ≤ C + p → C ≤ 800000 → 200 ≤ C + p → 2 * (s.size - p) + 2 ≤ f →
  Calls Tryd.prog 52 #[.pointer (some ⟨b, 0, none⟩), .string s, .int .i64 (p : Int)] w (TermPost base b ns cs s C (rdTerm f ((lst s).drop p)) p w)
def ArgsSaid (f : Nat) : Prop := ∀ (base b : Nat) (ns : List Nd) (cs : List Cl) (s : ByteArray) (p C : Nat) (w : World), s.size ≤ 200 → p ≤ s.size → StoreAt w base b ns cs → Env base w → ns.length ≤ C + p → cs.length ≤ C + p → C ≤ 800000 → 200 ≤ C + p → 2 * (s.size - p) + 3 ≤ f →
  Calls Tryd.prog 61 #[.pointer (some ⟨b, 0, none⟩), .string s, .int .i64 (p : Int)] w (ArgsPost base b ns cs s C (rdArgs f ((lst s).drop p)) p w)

theorem con_ok {t : ByteArray} {l : Nat} (h : t.size ≤ 1000) (hl : l ≤ 1000000) : (⟨3, t, 0, l⟩ : Nd).Ok :=
  ⟨by show (0 : Int) ≤ 3; omega, by show (3 : Int) ≤ 3; omega, h, by show (-1000000 : Int) ≤ 0; omega, by show (0 : Int) ≤ 1000000; omega, hl⟩

theorem bigName_of {c : UInt8} {l : List UInt8} (hc : isBig c = true) : bigName ((c :: l).takeWhile isNam) = decide (((c :: l).takeWhile isNam).length ≤ 20) := by
  have hn : isNam c = true := by simp [isNam, hc]
  rw [List.takeWhile_cons, hn]
  simp only [if_true, bigName, hc, Bool.and_true, List.all_cons, hn, Bool.true_and]
  rw [List.all_takeWhile]
  simp

set_option maxRecDepth 100000 in
set_option maxHeartbeats 2000000 in
theorem readCon_of (f : Nat) (hA : ∀ m, m < f → ArgsSaid m) (base b : Nat) (ns : List Nd) (cs : List Cl) (s : ByteArray) (p C : Nat) (w : World) (hs : s.size ≤ 200) (hp : p < s.size) (hbig : isBig s[p] = true) (hS : StoreAt w base b ns cs) (hE : Env base w)
    (hn : ns.length ≤ C + p) (hc : cs.length ≤ C + p) (hC : C ≤ 800000) (hC2 : 200 ≤ C + p) (hf : 2 * (s.size - p) + 1 ≤ f) :
    Calls Tryd.prog 55 #[.pointer (some ⟨b, 0, none⟩), .string s, .int .i64 (p : Int)] w
      (TermPost base b ns cs s C (rdCon f (((lst s).drop p).takeWhile isNam) (((lst s).drop p).dropWhile isNam)) p w) := by
  have hl := lst_len s
  have hdr : (lst s).drop p = s[p] :: (lst s).drop (p + 1) := List.drop_eq_getElem_cons (by omega)
  have hst := stopAt_le isNam (lst s) p (by omega)
  have hnam := stopAt_take isNam (lst s) p
  have hdrp := stopAt_drop isNam (lst s) p
  have hbn : bigName (lst (s.extract p (stopAt isNam (lst s) p))) = decide (stopAt isNam (lst s) p - p ≤ 20) := by
    rw [lst_extract, ← hnam, hdr, bigName_of hbig, ← hdr]
    congr 1
    rw [hnam, List.length_take, List.length_drop]
    rw [show min (stopAt isNam (lst s) p - p) ((lst s).length - p) = stopAt isNam (lst s) p - p from by omega]
  have hlen : (((lst s).drop p).takeWhile isNam).length = stopAt isNam (lst s) p - p := by
    rw [hnam, List.length_take, List.length_drop]; omega
  have hge : p + 1 ≤ stopAt isNam (lst s) p := by
    have : 1 ≤ (((lst s).drop p).takeWhile isNam).length := by
      rw [hdr, List.takeWhile_cons, show isNam s[p] = true from by simp [isNam, hbig]]; simp
    omega
  have hxn : lst (s.extract p (stopAt isNam (lst s) p)) = ((lst s).drop p).takeWhile isNam := by rw [lst_extract, hnam]
  have hxs : (s.extract p (stopAt isNam (lst s) p)).size ≤ 1000 := by rw [← lst_len, hxn, hlen]; omega
  rw [hdrp]
  generalize hq : stopAt isNam (lst s) p = q at *
  have hql := hst.2
  have HB := Lib.hid hbn
  have HXN := Lib.hid hxn
  have HLEN := Lib.hid hlen
  have HST := Lib.hid hq
  have HA := Lib.hid hA
  clear hbn hxn hlen hnam hdrp hdr hst hq hA
  rw [hl] at hql
  go_enter Tryd.func55, Tryd.ntmps55
  go_wp2_with fail
  refine (nameEnd_any s (by omega) p (by omega) _).mono ?_
  rintro e w' ⟨rfl, rfl⟩
  rw [HST.out]
  go_wp2_with fail
  refine (isBigName_any _ (by omega) _).mono ?_
  rintro e w' ⟨rfl, rfl⟩
  rw [HB.out]
  by_cases h20 : q - p ≤ 20
  · have hd : decide (q - p ≤ 20) = true := decide_eq_true h20
    by_cases hpar : ∃ h : q < s.size, s[q] = 40
    · obtain ⟨hqs, h40⟩ := hpar
      have he40 : ((s[q].toNat : Int) == 40) = true := by rw [h40]; rfl
      obtain ⟨f', rfl⟩ : ∃ f', f = f' + 1 := ⟨f - 1, by omega⟩
      have hrd : rdCon (f' + 1) (((lst s).drop p).takeWhile isNam) ((lst s).drop q) = (rdArgs f' ((lst s).drop (q + 1))).map fun x => (.con (((lst s).drop p).takeWhile isNam) x.1, x.2) := by
        rw [show (lst s).drop q = 40 :: (lst s).drop (q + 1) from by rw [← h40]; exact List.drop_eq_getElem_cons (by omega)]
        unfold rdCon
        rw [if_neg (by rw [HLEN.out]; omega)]
        rfl
      have HRD := Lib.hid hrd
      clear h40 hrd HB HLEN HST
      go_wp2_with fail
      refine (HA.out f' (by omega) base b ns cs s (q + 1) C w hs (by omega) hS hE (by omega) (by omega) hC (by omega) (by omega)).mono ?_
      rintro e w1 (⟨hr, rfl, ns1, cs1, h1, h2, h3, h4, h5, h6⟩ | ⟨ts, q1, v, is, ns1, cs1, hr, hq1, hq2, rfl, hv, hats, hi1, hi2, h1, h2, h3, h4, h5, h6⟩)
      · have P : TermPost base b ns cs s C (rdCon (f' + 1) (((lst s).drop p).takeWhile isNam) ((lst s).drop q)) p w (.returned (.tuple #[.int .i64 0, .int .i64 0, .bool false])) w1 :=
          .inl ⟨by rw [HRD.out, hr]; rfl, rfl, ns1, cs1, h1, h2, h3, h4, h5, h6⟩
        clear hr h1 h2 h3 h4 h5 h6
        go_wp2
        go_ret3
        exact P
      · have HR := Lib.hid hr
        have hB1 : base ≤ w1.heap.size := Nat.le_trans hE.size h6.below.size
        have hxl : ∀ x ∈ is, x ≤ 1000000 := fun x hx => by have := hats.lt x hx; omega
        clear hr
        obtain ⟨av, cv, rfl⟩ := owns_shape hv
        go_wp2_with fail
        refine (putList_any is (.slice av is.length cv) w1 h5 hB1 hv hxl (by omega)).mono ?_
        rintro e w2 ⟨L, cs2, rfl, hL, hE2, hc2, hS2, hF2⟩
        have hB2 : base ≤ w2.heap.size := Nat.le_trans hB1 hF2.below.size
        have hLl := hL.le
        clear h5 hv
        go_wp2_with fail
        refine (putNode_any ⟨3, s.extract p q, 0, L⟩ (con_ok hxs (by omega)) w2 hS2 hB2 (by omega)).mono ?_
        rintro e w3 ⟨i, ns3, rfl, hi3, hor, hS3, hF3⟩
        have hx3 := ext_of_put hor
        have hats3 := hats.mono hx3.1 hE2
        have P : TermPost base b ns cs s C (rdCon (f' + 1) (((lst s).drop p).takeWhile isNam) ((lst s).drop q)) p w (.returned (.tuple #[.int .i64 (i : Int), .int .i64 (q1 : Int), .bool true])) w3 :=
          .inr ⟨.con (((lst s).drop p).takeWhile isNam) ts, q1, i, ns3, cs2, by rw [HRD.out, HR.out]; rfl, by omega, hq2, rfl, by rw [← HXN.out]; exact .con i _ ts L is hi3 hL hats3.1 hats3.2, h1.trans hx3.1, h2.trans hE2, by omega, by omega, hS3, (h6.trans hF2).trans hF3⟩
        clear hi3 hor hS3 hF3 hx3 hats3 hats hL hE2 hS2 hF2 h1 h2 h6 hE HR HXN
        go_wp2
        go_ret3
        exact P
    · have hrd : rdCon f (((lst s).drop p).takeWhile isNam) ((lst s).drop q) = some (.con (((lst s).drop p).takeWhile isNam) [], (lst s).drop q) := by
        unfold rdCon
        rw [if_neg (by rw [HLEN.out]; omega)]
        by_cases hqs : q < s.size
        · rw [List.drop_eq_getElem_cons (by omega : q < (lst s).length)]
          exact if_neg (fun h => hpar ⟨hqs, h⟩)
        · rw [List.drop_eq_nil_of_le (by omega)]
      have HRD := Lib.hid hrd
      have htest : ∀ h : q < s.size, ((s[q].toNat : Int) == 40) = false := fun h => beq_eq_false_iff_ne.2 (fun h' => hpar ⟨h, by
        apply UInt8.toNat_inj.1
        show s[q].toNat = 40
        omega⟩)
      have HT := Lib.hid htest
      clear hrd hpar HB HLEN HST HA htest
      by_cases hqs : q < s.size
      · have h40 := HT.out hqs
        clear HT
        go_wp2_with fail
        refine (putList_none (ns := ns) (cs := cs) none 0 w hS).mono ?_
        rintro e w2 ⟨rfl, rfl⟩
        go_wp2_with fail
        refine (putNode_any ⟨3, s.extract p q, 0, 0⟩ (con_ok hxs (by omega)) w hS hE.size (by omega)).mono ?_
        rintro e w3 ⟨i, ns3, rfl, hi3, hor, hS3, hF3⟩
        have hx3 := ext_of_put hor
        have P : TermPost base b ns cs s C (rdCon f (((lst s).drop p).takeWhile isNam) ((lst s).drop q)) p w (.returned (.tuple #[.int .i64 (i : Int), .int .i64 (q : Int), .bool true])) w3 :=
          .inr ⟨.con (((lst s).drop p).takeWhile isNam) [], q, i, ns3, cs, by rw [HRD.out], by omega, hql, rfl, by rw [← HXN.out]; exact .con i _ [] 0 [] hi3 rfl rfl (fun k j t a b => by simp at a), hx3.1, Ext.refl _, by omega, by omega, hS3, hF3⟩
        clear hi3 hor hS3 hF3 hx3 hE HXN HRD hS
        go_wp2
        go_ret3
        exact P
      · have hqs2 : decide ((q : Int) < (s.size : Int)) = false := by simp; omega
        clear HT
        go_wp2_with fail
        refine (putList_none (ns := ns) (cs := cs) none 0 w hS).mono ?_
        rintro e w2 ⟨rfl, rfl⟩
        go_wp2_with fail
        refine (putNode_any ⟨3, s.extract p q, 0, 0⟩ (con_ok hxs (by omega)) w hS hE.size (by omega)).mono ?_
        rintro e w3 ⟨i, ns3, rfl, hi3, hor, hS3, hF3⟩
        have hx3 := ext_of_put hor
        have P : TermPost base b ns cs s C (rdCon f (((lst s).drop p).takeWhile isNam) ((lst s).drop q)) p w (.returned (.tuple #[.int .i64 (i : Int), .int .i64 (q : Int), .bool true])) w3 :=
          .inr ⟨.con (((lst s).drop p).takeWhile isNam) [], q, i, ns3, cs, by rw [HRD.out], by omega, hql, rfl, by rw [← HXN.out]; exact .con i _ [] 0 [] hi3 rfl rfl (fun k j t a b => by simp at a), hx3.1, Ext.refl _, by omega, by omega, hS3, hF3⟩
        clear hi3 hor hS3 hF3 hx3 hE HXN HRD hS
        go_wp2
        go_ret3
        exact P
  · have hd : decide (q - p ≤ 20) = false := decide_eq_false h20
    have P : TermPost base b ns cs s C (rdCon f (((lst s).drop p).takeWhile isNam) ((lst s).drop q)) p w (.returned (.tuple #[.int .i64 0, .int .i64 0, .bool false])) w :=
      .inl ⟨by unfold rdCon; rw [if_pos (by rw [HLEN.out]; omega)], rfl, ns, cs, Ext.refl _, Ext.refl _, by omega, by omega, hS, Fr.refl _ _⟩
    go_wp2
    go_ret3
    exact P

theorem itoa_ne_nil (n : Int) : Lib.itoa n ≠ [] := by
  rcases (show n < 0 ∨ n = 0 ∨ 0 < n from by omega) with h | rfl | h
  · rw [itoa_dig_neg h]; simp
  · rw [itoa_zero]; simp
  · rw [itoa_dig_pos h, dig_pos (by omega)]; simp

theorem rdNum_short {l r : List UInt8} {n : Int} (h : rdNum l = some (n, r)) : r.length < l.length := by
  unfold rdNum at h
  rw [Option.map_eq_some_iff] at h
  obtain ⟨m, hm, he⟩ := h
  have h1 := (numOf_some hm).2.2.1
  have h2 : r = l.drop (numLen l) := by simpa using (congrArg Prod.snd he).symm
  have h3 : 1 ≤ (l.take (numLen l)).length := by
    rw [← h1]
    have := itoa_ne_nil m
    cases hx : Lib.itoa m with
    | nil => exact absurd hx this
    | cons _ _ => simp
  rw [List.length_take] at h3
  rw [h2, List.length_drop]
  omega

set_option maxRecDepth 100000 in
set_option maxHeartbeats 2000000 in
theorem readTerm_of (f : Nat) (hA : ∀ m, m < f → ArgsSaid m) : TermSaid (f + 1) := by
  intro base b ns cs s p C w hs hp hS hE hn hc hC hC2 hf
  have hl := lst_len s
  by_cases hlt : p < s.size
  · have hdr : (lst s).drop p = s[p] :: (lst s).drop (p + 1) := List.drop_eq_getElem_cons (by omega)
    have hge : decide ((s.size : Int) ≤ (p : Int)) = false := by simp; omega
    by_cases h34 : s[p] = 34
    · have hrd : rdTerm (f + 1) ((lst s).drop p) = (rdSym ((lst s).drop (p + 1))).map fun x => (.sym x.1, x.2) := by
        rw [hdr, rdTerm, if_pos h34]
      have he34 : ((s[p].toNat : Int) == 34) = true := by rw [h34]; rfl
      have HRD := Lib.hid hrd
      have H34 := Lib.hid h34
      clear hrd hdr h34 hA
      go_enter Tryd.func52, Tryd.ntmps52
      go_wp2_with fail
      refine (readSymbol_any s hs p hlt H34.out w hS hE.size (by omega)).mono ?_
      rintro e w1 (⟨hr, rfl, rfl⟩ | ⟨y, q, i, ns', hr, h1, h2, rfl, h3, h4, h5, h6, h7⟩)
      · have P : TermPost base b ns cs s C (rdTerm (f + 1) ((lst s).drop p)) p w (.returned (.tuple #[.int .i64 0, .int .i64 0, .bool false])) w :=
          .inl ⟨by rw [HRD.out, hr]; rfl, rfl, ns, cs, Ext.refl _, Ext.refl _, by omega, by omega, hS, Fr.refl _ _⟩
        clear hr
        go_wp2
        go_ret3
        exact P
      · have hpq : p < q := h1
        have P : TermPost base b ns cs s C (rdTerm (f + 1) ((lst s).drop p)) p w (.returned (.tuple #[.int .i64 (i : Int), .int .i64 (q : Int), .bool true])) w1 :=
          .inr ⟨.sym y, q, i, ns', cs, by rw [HRD.out, hr]; rfl, hpq, h2, rfl, .sym i y h3, h4, Ext.refl _, by omega, by omega, h6, h7⟩
        clear hr h1 h2 h3 h4 h5 h6 h7
        go_wp2
        go_ret3
        exact P
    · have he34 : ((s[p].toNat : Int) == 34) = false := beq_eq_false_iff_ne.2 (fun h => h34 (by
        apply UInt8.toNat_inj.1
        show s[p].toNat = 34
        omega))
      cases hbig : isBig s[p]
      · have hrd : rdTerm (f + 1) ((lst s).drop p) = (rdNum ((lst s).drop p)).map fun x => (.num x.1, x.2) := by
          rw [hdr, rdTerm, if_neg h34, hbig]
          simp
        have hb2 : inB 65 90 s[p] = false := hbig
        have HRD := Lib.hid hrd
        clear hrd hdr h34 hA
        go_enter Tryd.func52, Tryd.ntmps52
        go_wp2_with fail
        refine (isBigLetter_any s[p] _).mono ?_
        rintro e w' ⟨rfl, rfl⟩
        go_wp2_with fail
        refine (readNumber_any s hs p hlt w hS hE (by omega)).mono ?_
        rintro e w1 (⟨hr, rfl, h6, h7⟩ | ⟨n, q, i, ns', hr, h1, h2, rfl, h3, h4, h5, h6, h7⟩)
        · have P : TermPost base b ns cs s C (rdTerm (f + 1) ((lst s).drop p)) p w (.returned (.tuple #[.int .i64 0, .int .i64 0, .bool false])) w1 :=
            .inl ⟨by rw [HRD.out, hr]; rfl, rfl, ns, cs, Ext.refl _, Ext.refl _, by omega, by omega, h6, h7⟩
          clear hr h6 h7
          go_wp2
          go_ret3
          exact P
        · have hpq : p < q := by
            have h8 := rdNum_short hr
            rw [List.length_drop, List.length_drop] at h8
            omega
          have P : TermPost base b ns cs s C (rdTerm (f + 1) ((lst s).drop p)) p w (.returned (.tuple #[.int .i64 (i : Int), .int .i64 (q : Int), .bool true])) w1 :=
            .inr ⟨.num n, q, i, ns', cs, by rw [HRD.out, hr]; rfl, hpq, h2, rfl, .num i n h3, h4, Ext.refl _, by omega, by omega, h6, h7⟩
          clear hr h1 h2 h3 h4 h5 h6 h7
          go_wp2
          go_ret3
          exact P
      · have hrd : rdTerm (f + 1) ((lst s).drop p) = rdCon f (((lst s).drop p).takeWhile isNam) (((lst s).drop p).dropWhile isNam) := by
          rw [hdr, rdTerm, if_neg h34, hbig]
          simp
        have hb2 : inB 65 90 s[p] = true := hbig
        rw [hrd]
        have hcon := readCon_of f hA base b ns cs s p C w hs hlt hbig hS hE hn hc hC hC2 (by omega)
        have HCON := Lib.hid hcon
        clear hrd hdr h34 hA hcon
        go_enter Tryd.func52, Tryd.ntmps52
        go_wp2_with fail
        refine (isBigLetter_any s[p] _).mono ?_
        rintro e w' ⟨rfl, rfl⟩
        go_wp2_with fail
        refine HCON.out.mono ?_
        intro e w1 P
        have hsh : ∃ (x y : Int) (z : Bool), e = .returned (.tuple #[.int .i64 x, .int .i64 y, .bool z]) := by
          rcases P with ⟨_, rfl, _⟩ | ⟨_, _, _, _, _, _, _, _, rfl, _⟩
          · exact ⟨_, _, _, rfl⟩
          · exact ⟨_, _, _, rfl⟩
        obtain ⟨x, y, z, rfl⟩ := hsh
        have HP := Lib.hid P
        clear P HCON
        go_wp2
        go_ret3
        exact HP.out
  · have P : TermPost base b ns cs s C (rdTerm (f + 1) ((lst s).drop p)) p w (.returned (.tuple #[.int .i64 0, .int .i64 0, .bool false])) w :=
      .inl ⟨by rw [List.drop_eq_nil_of_le (by omega)]; rfl, rfl, ns, cs, Ext.refl _, Ext.refl _, by omega, by omega, hS, Fr.refl _ _⟩
    have hge : decide ((s.size : Int) ≤ (p : Int)) = true := by simp; omega
    clear hA
    go_enter Tryd.func52, Tryd.ntmps52
    go_wp2
    go_ret3
    exact P

/-- A row of the caller's own grows: the store stays. -/
theorem StoreAt.grown {w w' : World} {base b base' : Nat} {ns : List Nd} {cs : List Cl} {v : Value} {n : Nat} {xs : List Value} {O : Obj} (h : StoreAt w base b ns cs) (ho : w.ownsRow base' 3 1 v n xs) (hg : (w.alloc O).grownBy w' v.ownBlock) : StoreAt w' base b ns cs := by
  obtain ⟨vn, vc, mn, mc, Dn, Dc, a1, a2, a3, a4, a5, a6, a7, a8, a9, a10, a11⟩ := h.lies
  have ho' := ho.alloc O
  obtain ⟨es, c, hm⟩ := map_block (a8.alloc O)
  obtain ⟨es2, c2, hm2⟩ := map_block (a10.alloc O)
  exact ⟨vn, vc, mn, mc, Dn, Dc, a1, a2, a3, a4, other_block ho' hg ((heap_alloc_old w O (lt_of_block a5)).trans a5) (by intro cur h; simp at h),
    (a6.alloc O).kept hg (own_other ho' (a6.alloc O) (by decide)), (a7.alloc O).kept hg (own_other ho' (a7.alloc O) (by decide)),
    (a8.alloc O).kept hg (Ne.symm (own_apart ho' hm (fun cur h => by cases h))), a9, (a10.alloc O).kept hg (Ne.symm (own_apart ho' hm2 (fun cur h => by cases h))), a11⟩
theorem Fr.grown {w w1 w' : World} {base : Nat} {O : Obj} {row : Option Nat} (h : Fr base w w1) (hg : (w1.alloc O).grownBy w' row) (hr : ∀ k, row = some k → w.heap.size ≤ k) (hB : base ≤ w.heap.size) : Fr base w w' := by
  have hB1 : w.heap.size ≤ w1.heap.size := h.below.size
  refine ⟨(h.below.alloc (by omega) O).grown hg (by simp; omega) (fun k hk => Nat.le_trans hB (hr k hk)), fun k cs t hk h1 h2 h3 => ?_⟩
  have hk1 := h.rows k cs t hk h1 h2 h3
  rw [hg.block k (by have := lt_of_block hk1; simp; omega) (fun e => by have := hr k e.symm; have := lt_of_block hk; omega)]
  exact (heap_alloc_old w1 O (lt_of_block hk1)).trans hk1

theorem rdArgs_none {k : Nat} {l : List UInt8} (h : rdTerm k l = none) : rdArgs (k + 1) l = none := by rw [rdArgs, h]
theorem rdArgs_end {k : Nat} {l : List UInt8} {t : Tm} (h : rdTerm k l = some (t, [])) : rdArgs (k + 1) l = none := by rw [rdArgs, h]
theorem rdArgs_cons {k : Nat} {l r : List UInt8} {t : Tm} {c : UInt8} (h : rdTerm k l = some (t, c :: r)) : rdArgs (k + 1) l = if c = 41 then some ([t], r) else if c = 44 then (rdArgs k r).map (fun x => (t :: x.1, x.2)) else none := by rw [rdArgs, h]

/-- What the loop of readArgs holds. -/
def ArgRel (base b : Nat) (ns : List Nd) (cs : List Cl) (s : ByteArray) (C f p : Nat) (w : World) (k : Nat) (v2 v9 : Value) (wr : World) : Prop :=
  ∃ (p' : Nat) (is : List Nat) (ts : List Tm) (ns' : List Nd) (cs' : List Cl), v2 = .int .i64 (p' : Int) ∧ p ≤ p' ∧ p' ≤ s.size ∧ 2 * (s.size - p') + 3 ≤ k ∧ k ≤ f ∧
    rdArgs f ((lst s).drop p) = (rdArgs k ((lst s).drop p')).map (fun x => (ts ++ x.1, x.2)) ∧ wr.ownsRow w.heap.size 3 1 v9 is.length (intCells is) ∧ Ats ns' cs' is ts ∧ is.length + p ≤ p' ∧ Ext ns ns' ∧ Ext cs cs' ∧
    ns'.length + is.length ≤ C + p' ∧ cs'.length + is.length ≤ C + p' ∧ StoreAt wr base b ns' cs' ∧ Fr base w wr ∧ Env base wr

set_option maxRecDepth 100000 in
set_option maxHeartbeats 4000000 in
theorem readArgs_of (f : Nat) (hT : ∀ m, m < f → TermSaid m) : ArgsSaid f := by
  intro base b ns cs s p C w hs hp hS hE hn hc hC hC2 hf
  have hl := lst_len s
  have HT := Lib.hid hT
  clear hT
  obtain ⟨i0, hi, hz0, hz1, hz2⟩ := info_parts info3
  go_enter Tryd.func61, Tryd.ntmps61
  go_wp2
  go_loopg [2, 9] f (fun k v2 v9 wr => ArgRel base b ns cs s C f p w k v2 v9 wr)
  case atStart => exact ⟨p, [], [], ns, cs, rfl, Nat.le_refl _, hp, hf, Nat.le_refl _, by simp, World.ownsRow_nil _ _ _ _, Ats.nil, by simp, Ext.refl _, Ext.refl _, by simpa using hn, by simpa using hc, hS, Fr.refl _ _, hE⟩
  case round =>
    obtain ⟨p', is, ts, ns1, cs1, rfl, g1, g2, g3, g4, hrd, hown, hats, g5, e1, e2, g6, g7, hS1, hF1, hE1⟩ := hrel
    obtain ⟨k', rfl⟩ : ∃ k', gk = k' + 1 := ⟨gk - 1, by omega⟩
    have HRD := Lib.hid hrd
    clear hrd
    obtain ⟨av, cv, rfl⟩ := owns_shape hown
    go_wp2_with fail
    refine (HT.out k' (by omega) base b ns1 cs1 s p' (C - is.length) wr hs g2 hS1 hE1 (by omega) (by omega) (by omega) (by omega) (by omega)).mono ?_
    rintro e w1 (⟨hr, rfl, ns2, cs2, h1, h2, h3, h4, h5, h6⟩ | ⟨t, q, i, ns2, cs2, hr, hq1, hq2, rfl, hat, h1, h2, h3, h4, h5, h6⟩)
    · have P : ArgsPost base b ns cs s C (rdArgs f ((lst s).drop p)) p w (.returned (.tuple #[.slice none 0 0, .int .i64 0, .bool false])) w1 :=
        .inl ⟨by rw [HRD.out, rdArgs_none hr]; rfl, rfl, ns2, cs2, e1.trans h1, e2.trans h2, by omega, by omega, h5, hF1.trans h6⟩
      clear hr h1 h2 h3 h4 h5 h6
      go_wp2
      go_ret3
      exact P
    · have HR := Lib.hid hr
      have hatS := (hats.mono h1 h2).snoc hat
      have hown1 := h6.ints (by decide) (by decide) (by decide) hown
      have hF2 := hF1.trans h6
      have hsz1 : w.heap.size ≤ w1.heap.size := hF2.below.size
      have hE2 := hE1.stays h6.below
      clear hr hats hown hF1 h6 hat hE1 hS1
      by_cases hqs : q < s.size
      · have hge : decide ((s.size : Int) ≤ (q : Int)) = false := by simp; omega
        rw [show (lst s).drop q = s[q] :: (lst s).drop (q + 1) from List.drop_eq_getElem_cons (by omega)] at HR
        have HRK := Lib.hid (rdArgs_cons HR.out)
        clear HR
        have hol := hown1.alloc (.cells #[.int .i64 (i : Int)] 3)
        have hnb : ∀ j u, [Value.int .i64 (i : Int)][j]? = some u → (w1.alloc (.cells #[.int .i64 (i : Int)] 3)).cell? ((⟨w1.heap.size, 0, none⟩ : Addr).add j) = some u := World.news_of_block (cs := #[.int .i64 (i : Int)]) (t := 3) (fr := (0, 0)) (heap_alloc_new w1 _)
        have HOL := Lib.hid hol
        have HNB := Lib.hid hnb
        clear hol hnb
        have fin : ∀ (g cap : Nat) (w2 : World), w2.ownsRow w.heap.size 3 1 (.slice (some ⟨g, 0, none⟩) (is.length + 1) cap) (is.length + 1) (intCells is ++ [.int .i64 (i : Int)]) → (w1.alloc (.cells #[.int .i64 (i : Int)] 3)).grownBy w2 (Value.slice av is.length cv).ownBlock →
            StoreAt w2 base b ns2 cs2 ∧ Fr base w w2 ∧ Env base w2 ∧ w2.ownsRow w.heap.size 3 1 (.slice (some ⟨g, 0, none⟩) (is.length + 1) cap) (is ++ [i]).length (intCells (is ++ [i])) := fun g cap w2 ho hg =>
          have hF3 := hF2.grown hg (own_ge hown1) hE.size
          ⟨h5.grown hown1 hg, hF3, hE.stays hF3.below, by rw [List.length_append]; simp only [intCells, List.map_append]; exact ho⟩
        have FIN := Lib.hid fin
        clear fin
        by_cases h41 : s[q] = 41
        · rw [if_pos h41] at HRK
          have he41 : ((s[q].toNat : Int) == 41) = true := by rw [h41]; rfl
          clear h41
          go_wp2_with (at_builtin; refine wpList_append_lies _ rfl (.tmp 29) (.tmp 31) 74 rfl w.heap.size 3 i0 (.int .i64 0) 1 8 Tryd.underlying74 hi hz0 hz1 hz2 rfl (by decide) (.slice av is.length cv) is.length (intCells is) rfl HOL.out ⟨w1.heap.size, 0, none⟩ 1 1 [.int .i64 (i : Int)] rfl rfl HNB.out (by simp [Value.oneCell']) (by omega) (by unfold maxLen; omega) (by omega) (by simp; omega) _ rfl ?_)
          intro g cap w2 ho2 hg2 _ _
          obtain ⟨k1, k2, k3, k4⟩ := FIN.out g cap w2 ho2 hg2
          have P : ArgsPost base b ns cs s C (rdArgs f ((lst s).drop p)) p w (.returned (.tuple #[.slice (some ⟨g, 0, none⟩) (is.length + 1) cap, .int .i64 ((q : Int) + 1), .bool true])) w2 :=
            .inr ⟨ts ++ [t], q + 1, _, is ++ [i], ns2, cs2, by rw [HRD.out, HRK.out]; rfl, by omega, by omega, rfl, k4, hatS, by simp, by simp; omega, e1.trans h1, e2.trans h2, by simp; omega, by simp; omega, k1, k2⟩
          clear ho2 hg2 k1 k2 k3 k4 FIN HOL HNB hatS hown1 hF2 hE2
          go_wp2
          go_ret3
          exact P
        · have he41 : ((s[q].toNat : Int) == 41) = false := beq_eq_false_iff_ne.2 (fun h => h41 (by
            apply UInt8.toNat_inj.1
            show s[q].toNat = 41
            omega))
          rw [if_neg h41] at HRK
          clear h41
          by_cases h44 : s[q] = 44
          · rw [if_pos h44] at HRK
            have he44 : ((s[q].toNat : Int) == 44) = true := by rw [h44]; rfl
            clear h44
            go_wp2_with (at_builtin; refine wpList_append_lies _ rfl (.tmp 29) (.tmp 31) 74 rfl w.heap.size 3 i0 (.int .i64 0) 1 8 Tryd.underlying74 hi hz0 hz1 hz2 rfl (by decide) (.slice av is.length cv) is.length (intCells is) rfl HOL.out ⟨w1.heap.size, 0, none⟩ 1 1 [.int .i64 (i : Int)] rfl rfl HNB.out (by simp [Value.oneCell']) (by omega) (by unfold maxLen; omega) (by omega) (by simp; omega) _ rfl ?_)
            intro g cap w2 ho2 hg2 _ _
            obtain ⟨k1, k2, k3, k4⟩ := FIN.out g cap w2 ho2 hg2
            have R : ArgRel base b ns cs s C f p w k' (.int .i64 ((q : Int) + 1)) (.slice (some ⟨g, 0, none⟩) (is.length + 1) cap) w2 :=
              ⟨q + 1, is ++ [i], ts ++ [t], ns2, cs2, rfl, by omega, by omega, by omega, by omega, by
                rw [HRD.out, HRK.out, Option.map_map]
                congr 1
                funext x
                simp, k4, hatS, by simp; omega, e1.trans h1, e2.trans h2, by simp; omega, by simp; omega, k1, k2, k3⟩
            clear ho2 hg2 k1 k2 k3 k4 FIN HOL HNB hatS hown1 hF2 hE2
            go_wp2
            go_roundg k'
            case measure => omega
            case rel => exact R
          · rw [if_neg h44] at HRK
            have he44 : ((s[q].toNat : Int) == 44) = false := beq_eq_false_iff_ne.2 (fun h => h44 (by
              apply UInt8.toNat_inj.1
              show s[q].toNat = 44
              omega))
            clear h44
            go_wp2_with (at_builtin; refine wpList_append_lies _ rfl (.tmp 29) (.tmp 31) 74 rfl w.heap.size 3 i0 (.int .i64 0) 1 8 Tryd.underlying74 hi hz0 hz1 hz2 rfl (by decide) (.slice av is.length cv) is.length (intCells is) rfl HOL.out ⟨w1.heap.size, 0, none⟩ 1 1 [.int .i64 (i : Int)] rfl rfl HNB.out (by simp [Value.oneCell']) (by omega) (by unfold maxLen; omega) (by omega) (by simp; omega) _ rfl ?_)
            intro g cap w2 ho2 hg2 _ _
            obtain ⟨k1, k2, k3, k4⟩ := FIN.out g cap w2 ho2 hg2
            have P : ArgsPost base b ns cs s C (rdArgs f ((lst s).drop p)) p w (.returned (.tuple #[.slice none 0 0, .int .i64 0, .bool false])) w2 :=
              .inl ⟨by rw [HRD.out, HRK.out]; rfl, rfl, ns2, cs2, e1.trans h1, e2.trans h2, by omega, by omega, k1, k2⟩
            clear ho2 hg2 k1 k2 k3 k4 FIN HOL HNB hatS hown1 hF2 hE2
            go_wp2
            go_ret3
            exact P
      · have P : ArgsPost base b ns cs s C (rdArgs f ((lst s).drop p)) p w (.returned (.tuple #[.slice none 0 0, .int .i64 0, .bool false])) w1 :=
          .inl ⟨by rw [HRD.out, rdArgs_end (t := t) (by rw [HR.out, List.drop_eq_nil_of_le (by omega)])]; rfl, rfl, ns2, cs2, e1.trans h1, e2.trans h2, by omega, by omega, h5, hF2⟩
        have hge : decide ((s.size : Int) ≤ (q : Int)) = true := by simp; omega
        clear h1 h2 h3 h4 h5 hatS hown1 hF2
        go_wp2
        go_ret3
        exact P

end Go.Proofs.YtngnmfoephegmaaDoor
