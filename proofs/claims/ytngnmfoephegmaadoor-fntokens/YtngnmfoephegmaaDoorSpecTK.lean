/-
  THE WALK over spec.TermKind; laws.FnExactTermKind answers true.
-/
import Derived.Test.YtngnmfoephegmaaDoorSpecArgs2
namespace Go.Proofs.YtngnmfoephegmaaDoor
open Go Go.RowKit

theorem glue_len : ∀ (args : List (List UInt8)) (a : List UInt8), a ∈ args → a.length ≤ (glue args).length
  | [b], a, h => by
    obtain rfl : a = b := by simpa using h
    exact Nat.le_refl _
  | b :: c :: r, a, h => by
    show a.length ≤ (b ++ 44 :: glue (c :: r)).length
    rw [List.length_append, List.length_cons]
    rcases List.mem_cons.1 h with rfl | h
    · omega
    · have := glue_len (c :: r) a h
      omega
  | [], a, h => by cases h

theorem sArgs_len {l : List UInt8} {a : List UInt8} (h : a ∈ (sArgs l).2.1) : a.length < l.length := by
  cases hd : l.dropWhile isOpen with
  | nil =>
    have e : sArgs l = (l, [], true) := by unfold sArgs; rw [hd]
    rw [e] at h
    cases h
  | cons c r =>
    cases hsc : scan r 1 false [] [] with
    | none =>
      have e : sArgs l = ([], [], false) := by unfold sArgs; rw [hd]; simp only; rw [hsc]
      rw [e] at h
      cases h
    | some x =>
      obtain ⟨args, rest⟩ := x
      have e : sArgs l = (l.takeWhile isOpen, args, rest.isEmpty) := by unfold sArgs; rw [hd]; simp only; rw [hsc]
      rw [e] at h
      obtain ⟨args', h3, _, h5⟩ := scan_back _ _ _ _ _ _ _ hsc
      rw [List.nil_append] at h3 h5
      subst h3
      have h6 := glue_len args a h
      have h7 := congrArg List.length h5
      rw [List.length_append, List.length_cons] at h7
      have h8 := congrArg List.length (List.takeWhile_append_dropWhile (p := isOpen) (l := l))
      rw [hd, List.length_append, List.length_cons] at h8
      omega

theorem glue_count : ∀ (args : List (List UInt8)), args.length ≤ (glue args).length + 1
  | [] => Nat.zero_le _
  | [b] => by simp
  | b :: c :: r => by
    have := glue_count (c :: r)
    show (b :: c :: r).length ≤ (b ++ 44 :: glue (c :: r)).length + 1
    have e1 : (b :: c :: r).length = (c :: r).length + 1 := rfl
    have e2 : (b ++ 44 :: glue (c :: r)).length = b.length + ((glue (c :: r)).length + 1) := by rw [List.length_append, List.length_cons]
    omega
theorem sArgs_count (l : List UInt8) : (sArgs l).2.1.length ≤ l.length := by
  cases hd : l.dropWhile isOpen with
  | nil =>
    have e : sArgs l = (l, [], true) := by unfold sArgs; rw [hd]
    rw [e]; exact Nat.zero_le _
  | cons c r =>
    cases hsc : scan r 1 false [] [] with
    | none =>
      have e : sArgs l = ([], [], false) := by unfold sArgs; rw [hd]; simp only; rw [hsc]
      rw [e]; exact Nat.zero_le _
    | some x =>
      obtain ⟨args, rest⟩ := x
      have e : sArgs l = (l.takeWhile isOpen, args, rest.isEmpty) := by unfold sArgs; rw [hd]; simp only; rw [hsc]
      rw [e]
      obtain ⟨args', h3, _, h5⟩ := scan_back _ _ _ _ _ _ _ hsc
      rw [List.nil_append] at h3 h5
      subst h3
      have h6 := glue_count args
      have h7 := congrArg List.length h5
      rw [List.length_append, List.length_cons] at h7
      have h8 := congrArg List.length (List.takeWhile_append_dropWhile (p := isOpen) (l := l))
      rw [hd, List.length_append, List.length_cons] at h8
      show args.length ≤ l.length
      omega

theorem sk_num {f : Nat} {l : List UInt8} {n : Int} (h0 : l ≠ []) (h1 : l.length ≤ 200) (h : numOf l = some n) : sKind (f + 1) l = 1 := by
  rw [sKind, if_neg (fun x => x.elim h0 (by omega)), h]; rfl
theorem sk_sym {f : Nat} {l : List UInt8} (h0 : l ≠ []) (h1 : l.length ≤ 200) (h : numOf l = none) (hh : l.head? = some 34) : sKind (f + 1) l = if symOk l then 2 else 0 := by
  rw [sKind, if_neg (fun x => x.elim h0 (by omega)), h, if_neg (by simp), if_pos hh]
theorem sk_con {f : Nat} {l : List UInt8} (h0 : l ≠ []) (h1 : l.length ≤ 200) (h : numOf l = none) (hh : ¬ l.head? = some 34) :
    sKind (f + 1) l = if (sArgs l).2.2 && bigName (sArgs l).1 then (if (sArgs l).2.1.all (fun a => sKind f a != 0) then 3 else 0) else 0 := by
  rw [sKind, if_neg (fun x => x.elim h0 (by omega)), h, if_neg (by simp), if_neg hh]

/-- symOk, place by place. -/
theorem symOk_iff (s : ByteArray) (hp : 2 ≤ s.size) (h22 : s.size ≤ 22) (hlast : s[s.size - 1] = 34) : symOk (lst s) = true ↔ ∀ j (h : j < s.size), 1 ≤ j → j + 1 < s.size → isSyB s[j] = true := by
  have hl := lst_len s
  have hgl : (lst s).getLast? = some 34 := by
    rw [List.getLast?_eq_getElem?, hl, List.getElem?_eq_getElem (by omega)]
    exact congrArg some hlast
  simp only [symOk, hgl, beq_self_eq_true, Bool.and_true, Bool.and_eq_true, decide_eq_true_eq, List.all_eq_true]
  constructor
  · rintro ⟨_, h⟩ j hj h1 h2
    have hm : (lst s)[j]'(by omega) ∈ (lst s).tail.dropLast := by
      have h3 : j - 1 < (lst s).tail.dropLast.length := by rw [List.length_dropLast, List.length_tail]; omega
      have h4 : (lst s).tail.dropLast[j - 1] = (lst s)[j]'(by omega) := by
        rw [List.getElem_dropLast, List.getElem_tail]
        simp only [show j - 1 + 1 = j from by omega]
      rw [← h4]
      exact List.getElem_mem _
    exact h _ hm
  · intro h
    refine ⟨⟨by omega, by omega⟩, fun c hc => ?_⟩
    obtain ⟨k, hk, rfl⟩ := List.getElem_of_mem hc
    rw [List.length_dropLast, List.length_tail] at hk
    rw [List.getElem_dropLast, List.getElem_tail]
    exact h (k + 1) (by omega) (by omega) (by omega)

def MidRel (s : ByteArray) (w : World) (v : Value) (wr : World) : Prop :=
  ∃ r : Nat, w = wr ∧ v = .int .i64 (r : Int) ∧ 1 ≤ r ∧ r + 1 ≤ s.size ∧ ∀ j (h : j < s.size), 1 ≤ j → j < r → isSyB s[j] = true

/-- The arguments gone by are terms. -/
def ArgsGone (f : Nat) (w : World) (xs : List ByteArray) (base : Nat) (vs : Value) (v : Value) (wr : World) : Prop :=
  ∃ k : Nat, v = .int .i64 (k : Int) ∧ k ≤ xs.length ∧ (∀ j (h : j < xs.length), j < k → sKind f (lst xs[j]) ≠ 0) ∧ wr.ownsRow base 9 1 vs xs.length (strCells xs) ∧ Below w.heap.size w wr

theorem all_kinds {f : Nat} {xs : List ByteArray} (h : ∀ j (h : j < xs.length), sKind f (lst xs[j]) ≠ 0) : (xs.map lst).all (fun a => sKind f a != 0) = true := by
  rw [List.all_map, List.all_eq_true]
  intro x hx
  obtain ⟨j, hj, rfl⟩ := List.getElem_of_mem hx
  simp only [Function.comp, bne_iff_ne]
  exact h j hj
theorem not_all_kinds {f : Nat} {xs : List ByteArray} {j : Nat} (hj : j < xs.length) (h : sKind f (lst xs[j]) = 0) : (xs.map lst).all (fun a => sKind f a != 0) = false := by
  cases hx : (xs.map lst).all (fun a => sKind f a != 0) with
  | false => rfl
  | true =>
    rw [List.all_map, List.all_eq_true] at hx
    have := hx xs[j] (List.getElem_mem hj)
    simp [Function.comp, h] at this

def KindSaid (f : Nat) : Prop := ∀ (s : ByteArray) (w : World), s.size < f → s.size ≤ 140737488351232 → Calls Tryd.prog 33 #[.string s] w fun e w' => e = .returned (.int .i64 (sKind f (lst s))) ∧ Below w.heap.size w w'

set_option maxRecDepth 100000 in
set_option maxHeartbeats 4000000 in
theorem specKind_step (f : Nat) (ih : KindSaid f) : KindSaid (f + 1) := by
  intro s w hf hlim
  have hl := lst_len s
  by_cases h0 : s.size = 0
  · have e : sKind (f + 1) (lst s) = 0 := by
      have : lst s = [] := List.length_eq_zero_iff.1 (by omega)
      rw [this, sKind, if_pos (.inl rfl)]
    rw [e]
    obtain rfl : s = ⟨#[]⟩ := lst_inj (by rw [List.length_eq_zero_iff.1 (by omega : (lst s).length = 0)]; rfl)
    clear e h0 hl ih
    go_enter Tryd.func33, Tryd.ntmps33
    go_wp2
    go_ret
    exact ⟨rfl, Below.refl _ _⟩
  · have hne : (s.toList == []) = false := by
      rw [ByteArray.toList_eq]
      exact beq_eq_false_iff_ne.2 (fun h => h0 (by rw [← hl]; show s.data.toList.length = 0; rw [h]; rfl))
    have hp : 0 < s.size := by omega
    have hne2 : lst s ≠ [] := fun h => h0 (by rw [← hl, h]; rfl)
    have hhd : (lst s).head? = some s[0] := by
      rw [List.head?_eq_getElem?, List.getElem?_eq_getElem (by omega)]; rfl
    have IH := Lib.hid ih
    clear h0 ih
    by_cases h200 : s.size ≤ 200
    · have hgt : decide ((200 : Int) < (s.size : Int)) = false := decide_eq_false (by omega)
      have hgt' : decide (200 < s.size) = false := decide_eq_false (by omega)
      go_enter Tryd.func33, Tryd.ntmps33
      go_wp2_with fail
      refine (l01Number_any s hlim _).mono ?_
      rintro e w1 ⟨n, ok, rfl, (⟨rfl, hn⟩ | ⟨rfl, hn⟩), hb1⟩
      · have HK := Lib.hid (sk_num (f := f) hne2 (by omega) hn)
        clear hn
        go_wp2
        go_ret
        rw [HK.out]
        exact ⟨rfl, hb1⟩
      · by_cases h34 : s[0] = 34
        · have he34 : ((s[0].toNat : Int) == 34) = true := by rw [h34]; rfl
          have HK := Lib.hid (sk_sym (f := f) hne2 (by omega) hn (by rw [hhd, h34]))
          clear hn h34
          by_cases h22 : 2 ≤ s.size ∧ s.size ≤ 22
          · have hb : bet (s.size : Int) 2 22 = true := bet_in (by omega) (by omega)
            have h2 := h22.1
            have h3 := h22.2
            have hlt1 : s.size - 1 < s.size := by omega
            have ecast : ((s.size : Int) - 1) = ((s.size - 1 : Nat) : Int) := by omega
            by_cases hla : s[s.size - 1] = 34
            · have hne34 : ((s[s.size - 1].toNat : Int) != 34) = false := by rw [hla]; rfl
              have HSY := Lib.hid (symOk_iff s h2 h3 hla)
              clear h22 hla ecast
              go_wp2_with (go_at_call 46; refine (between_any _ _ _ _).mono ?_; rintro e w' ⟨rfl, rfl⟩)
              go_loopw [5] (fun v wr => MidRel s w1 v wr) (fun v _ => (s.size - (intOf v).toNat))
              case atStart => exact ⟨1, rfl, rfl, Nat.le_refl _, by omega, fun j h a b => by omega⟩
              case round =>
                obtain ⟨r, rfl, rfl, hr1, hr2, hall⟩ := hrel
                have HALL := Lib.hid hall
                clear hall
                by_cases hlt : r + 1 < s.size
                · have hrs : r < s.size := by omega
                  have hc := s[r].toNat_lt
                  by_cases hd : isSyB s[r] = true
                  · have R : MidRel s w1 (.int .i64 ((r : Int) + 1)) w1 := ⟨r + 1, rfl, by go_num, by omega, by omega, fun j h a b => by
                      by_cases hj : j < r
                      · exact HALL.out j h a hj
                      · obtain rfl : j = r := by omega
                        exact hd⟩
                    have HR := Lib.hid R
                    have hd' := hd
                    simp only [isSyB, Bool.and_eq_true, decide_eq_true_eq, bne_iff_ne] at hd'
                    have hb5 : bet ((s[r].toNat : Nat) : Int) 32 126 = true := bet_in (by omega) (by omega)
                    have h34' : ((s[r].toNat : Int) == 34) = false := beq_eq_false_iff_ne.2 (by omega)
                    have h92' : ((s[r].toNat : Int) == 92) = false := beq_eq_false_iff_ne.2 (by omega)
                    clear R hd hd'
                    go_wp2_with (go_at_call 46; refine (between_any _ _ _ _).mono ?_; rintro e w' ⟨rfl, rfl⟩)
                    go_roundw
                    case rel => exact HR.out
                    case measure => simp [intOf]; omega
                  · have hF : symOk (lst s) = false := by
                      cases hx : symOk (lst s) with
                      | false => rfl
                      | true => exact absurd (HSY.out.1 hx r hrs hr1 hlt) hd
                    rw [hF] at HK
                    clear hF
                    have hcases : bet ((s[r].toNat : Nat) : Int) 32 126 = false ∨ (bet ((s[r].toNat : Nat) : Int) 32 126 = true ∧ s[r].toNat = 34) ∨ (bet ((s[r].toNat : Nat) : Int) 32 126 = true ∧ ¬ s[r].toNat = 34 ∧ s[r].toNat = 92) := by
                      simp only [isSyB, Bool.and_eq_true, decide_eq_true_eq, bne_iff_ne] at hd
                      by_cases h1 : 32 ≤ s[r].toNat ∧ s[r].toNat ≤ 126
                      · have hb5 : bet ((s[r].toNat : Nat) : Int) 32 126 = true := bet_in (by omega) (by omega)
                        by_cases h2 : s[r].toNat = 34
                        · exact .inr (.inl ⟨hb5, h2⟩)
                        · exact .inr (.inr ⟨hb5, h2, by omega⟩)
                      · left
                        by_cases h3 : 32 ≤ s[r].toNat
                        · exact bet_hi (by omega)
                        · exact bet_lo (by omega)
                    clear hd
                    rcases hcases with hb5 | ⟨hb5, h34'⟩ | ⟨hb5, h34', h92'⟩
                    · go_wp2_with (go_at_call 46; refine (between_any _ _ _ _).mono ?_; rintro e w' ⟨rfl, rfl⟩)
                      go_ret
                      rw [HK.out]
                      exact ⟨rfl, hb1⟩
                    · have h34b : ((s[r].toNat : Int) == 34) = true := beq_iff_eq.2 (by omega)
                      clear h34'
                      go_wp2_with (go_at_call 46; refine (between_any _ _ _ _).mono ?_; rintro e w' ⟨rfl, rfl⟩)
                      go_ret
                      rw [HK.out]
                      exact ⟨rfl, hb1⟩
                    · have h34b : ((s[r].toNat : Int) == 34) = false := beq_eq_false_iff_ne.2 (by omega)
                      have h92b : ((s[r].toNat : Int) == 92) = true := beq_iff_eq.2 (by omega)
                      clear h34' h92'
                      go_wp2_with (go_at_call 46; refine (between_any _ _ _ _).mono ?_; rintro e w' ⟨rfl, rfl⟩)
                      go_ret
                      rw [HK.out]
                      exact ⟨rfl, hb1⟩
                · have hT : symOk (lst s) = true := HSY.out.2 (fun j h a b => HALL.out j h a (by omega))
                  rw [hT] at HK
                  have hlt2 : decide ((r : Int) + 1 < (s.size : Int)) = false := decide_eq_false (by omega)
                  clear hT
                  go_wp2
                  go_ret
                  rw [HK.out]
                  exact ⟨rfl, hb1⟩
            · have hne34 : ((s[s.size - 1].toNat : Int) != 34) = true := by
                rw [bne_iff_ne]
                intro h
                exact hla (UInt8.toNat_inj.1 (by show s[s.size - 1].toNat = 34; omega))
              have hF : symOk (lst s) = false := by
                cases hx : symOk (lst s) with
                | false => rfl
                | true =>
                  exfalso
                  apply hla
                  simp only [symOk, Bool.and_eq_true, beq_iff_eq] at hx
                  have h5 := hx.1.2
                  rw [List.getLast?_eq_getElem?, hl, List.getElem?_eq_getElem (by omega)] at h5
                  exact Option.some.inj h5
              rw [hF] at HK
              clear h22 hla hF ecast
              go_wp2_with (go_at_call 46; refine (between_any _ _ _ _).mono ?_; rintro e w' ⟨rfl, rfl⟩)
              go_ret
              rw [HK.out]
              exact ⟨rfl, hb1⟩
          · have hb : bet (s.size : Int) 2 22 = false := by
              by_cases h : 2 ≤ s.size
              · exact bet_hi (by omega)
              · exact bet_lo (by omega)
            have hF : symOk (lst s) = false := by
              cases hx : symOk (lst s) with
              | false => rfl
              | true =>
                simp only [symOk, Bool.and_eq_true, decide_eq_true_eq] at hx
                omega
            rw [hF] at HK
            clear h22 hF
            go_wp2_with (go_at_call 46; refine (between_any _ _ _ _).mono ?_; rintro e w' ⟨rfl, rfl⟩)
            go_ret
            rw [HK.out]
            exact ⟨rfl, hb1⟩
        · have he34 : ((s[0].toNat : Int) == 34) = false := u8_ne h34
          have HK := Lib.hid (sk_con (f := f) hne2 (by omega) hn (by rw [hhd]; intro h; exact h34 (Option.some.inj h)))
          clear hn h34
          go_wp2_with fail
          refine (l01Args_any s h200 _).mono ?_
          rintro e w2 ⟨nm, xs, v, ok, rfl, hsa, hnm, hown, hb2⟩
          have hb12 := hb1.trans (hb2.mono hb1.size)
          rw [hsa] at HK
          have hxl : ∀ x ∈ xs, (lst x).length < (lst s).length := fun x hx => sArgs_len (by rw [hsa]; exact List.mem_map.2 ⟨x, hx, rfl⟩)
          have HXL := Lib.hid hxl
          have hxn : xs.length ≤ 200 := by
            have h9 := sArgs_count (lst s)
            rw [hsa] at h9
            simp only [List.length_map] at h9
            omega
          clear hsa hxl hb1 hb2
          cases ok with
          | false =>
            go_wp2
            go_ret
            rw [HK.out]
            exact ⟨rfl, hb12⟩
          | true =>
            cases hbn : bigName (lst nm)
            · go_wp2_with (go_at_call 49; refine (l01Name_any nm (by omega) _).mono ?_; rintro e w' ⟨rfl, rfl⟩)
              go_ret
              rw [HK.out]
              simp only [hbn]
              exact ⟨rfl, hb12⟩
            · simp only [hbn, Bool.and_self, if_true] at HK
              obtain ⟨av, cv, rfl⟩ := owns_shape hown
              go_wp2_with (go_at_call 49; refine (l01Name_any nm (by omega) _).mono ?_; rintro e w' ⟨rfl, rfl⟩)
              go_loopw [9] (fun v wr => ArgsGone f w xs w1.heap.size (.slice av xs.length cv) v wr) (fun v _ => (xs.length - (intOf v).toNat))
              case atStart => exact ⟨0, rfl, Nat.zero_le _, fun j h a => by omega, hown, hb12⟩
              case round =>
                obtain ⟨k, rfl, hk, hall, hownr, hbr⟩ := hrel
                have HALL := Lib.hid hall
                clear hall
                by_cases hlt : k < xs.length
                · obtain ⟨g, cap, hgv, _, _⟩ := hownr.form (by omega)
                  simp only [Value.slice.injEq, true_and] at hgv
                  obtain ⟨rfl, rfl⟩ := hgv
                  have hx : wr.cell? ⟨g, k, none⟩ = some (.string xs[k]) := by
                    rw [hownr.cellAt k (by omega)]
                    simp [strCells, hlt]
                  have hxs := HXL.out xs[k] (List.getElem_mem hlt)
                  rw [lst_len, lst_len] at hxs
                  have hkl : (k : Int) < (xs.length : Int) := by omega
                  have Z0 := Lib.hid (fun (h : sKind f (lst xs[k]) = 0) => not_all_kinds hlt h)
                  have Z1 : ∀ (w3 : World), sKind f (lst xs[k]) ≠ 0 → Below wr.heap.size wr w3 → ArgsGone f w xs w1.heap.size (.slice (some ⟨g, 0, none⟩) xs.length cv) (.int .i64 ((k : Int) + 1)) w3 := fun w3 hz hb3 =>
                    ⟨k + 1, by go_num, by omega, fun j h a => by
                      by_cases hj : j < k
                      · exact HALL.out j h hj
                      · obtain rfl : j = k := by omega
                        exact hz, by
                        have hg3 : wr.grownBy w3 none := ⟨hb3.os, hb3.tape, hb3.output, hb3.size, fun k hk _ => hb3.block k hk⟩
                        exact hownr.kept hg3 (.inr (by simp [Value.ownBlock])), hbr.trans (hb3.mono hbr.size)⟩
                  have HZ1 := Lib.hid Z1
                  clear Z1
                  generalize xs[k] = x at *
                  go_wp2_with fail
                  refine (IH.out x wr (by omega) (by omega)).mono ?_
                  rintro e w3 ⟨rfl, hb3⟩
                  by_cases hz : sKind f (lst x) = 0
                  · have HF := Lib.hid (Z0.out hz)
                    rw [HF.out] at HK
                    have hb := hbr.trans (hb3.mono hbr.size)
                    rw [hz]
                    clear hz HF Z0 HZ1 hb3 hbr hownr
                    go_wp2
                    go_ret
                    rw [HK.out]
                    exact ⟨rfl, hb⟩
                  · have R := HZ1.out w3 hz hb3
                    have HR := Lib.hid R
                    have hzb : (sKind f (lst x) == 0) = false := beq_eq_false_iff_ne.2 hz
                    clear R hz Z0 HZ1 hb3 hbr hownr
                    generalize sKind f (lst x) = y at *
                    go_wp2
                    go_roundw
                    case rel => exact HR.out
                    case measure => simp [intOf]; omega
                · have hT := all_kinds (f := f) (xs := xs) (fun j h => HALL.out j h (by omega))
                  rw [hT] at HK
                  have hlt2 : decide ((k : Int) < (xs.length : Int)) = false := decide_eq_false (by omega)
                  clear hT hownr
                  go_wp2
                  go_ret
                  rw [HK.out]
                  exact ⟨rfl, hbr⟩
    · have HK : sKind (f + 1) (lst s) = 0 := by rw [sKind, if_pos (.inr (by omega))]
      rw [HK]
      have hgt : decide ((200 : Int) < (s.size : Int)) = true := decide_eq_true (by omega)
      have hgt' : decide (200 < s.size) = true := decide_eq_true (by omega)
      clear HK
      go_enter Tryd.func33, Tryd.ntmps33
      go_wp2
      go_ret
      exact ⟨rfl, Below.refl _ _⟩

theorem kind_said (f : Nat) : KindSaid f := by
  induction f with
  | zero => intro s w hf; omega
  | succ f ih => exact specKind_step f ih

/-- spec.TermKind answers as impl.TermKind. -/
theorem specTermKind (s : ByteArray) (hlim : s.size ≤ 140737488351232) (w : World) :
    Calls Tryd.prog 33 #[.string s] w fun e w' => e = .returned (.int .i64 (iKind (lst s))) ∧ Below w.heap.size w w' := by
  have h := kind_said (s.size + 1) s w (by omega) hlim
  rw [sKind_eq _ _ (by rw [lst_len]; omega)] at h
  exact h

end Go.Proofs.YtngnmfoephegmaaDoor
