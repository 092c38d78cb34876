/-
  laws.FnTerms answers true.
-/
import Derived.Test.YtkhliflgflhheaaDoorDrawAny
import Derived.Test.YtkhliflgflhheaaDoorMake
namespace Go.Proofs.YtkhliflgflhheaaDoor
open Go Go.RowKit Go.Maps Go.WideMaps

theorem sizes_mem : ∀ {l : List Tm} {a : Tm}, a ∈ l → a.size ≤ sizes l
  | b :: l, a, h => by
    rw [sizes]
    rcases List.mem_cons.1 h with rfl | h
    · omega
    · have := sizes_mem h; omega

theorem kid_facts {l : List UInt8} {t a : Tm} (hr : rdAll l = some t) (ha : a ∈ t.kids) : rdAll a.text = some a ∧ InsideIs a.text l ∧ ¬ InsideIs l a.text ∧ a.size < t.size ∧ ∀ b ∈ a.kids, InsideIs b.text l := by
  obtain ⟨h1, h2⟩ := kids_read hr ha
  refine ⟨h1, ⟨a, t, h1, hr, .here _ ha⟩, ?_, ?_, fun b hb => ⟨b, t, (kids_read h1 hb).1, hr, .deep t a ha (.here _ hb)⟩⟩
  · rintro ⟨x, y, hx, hy, h⟩
    rw [hr] at hx
    rw [h1] at hy
    obtain rfl := Option.some.inj hx
    obtain rfl := Option.some.inj hy
    have := has_len h
    have := kids_len ha
    omega
  · have h3 := size_kids t
    have h4 := sizes_mem ha
    omega

theorem make_parts {l nm : List UInt8} {ts : List Tm} (hr : rdAll l = some (.con nm ts)) : makeOk nm (ts.map Tm.text) ∧ conText nm (ts.map Tm.text) = l := by
  obtain ⟨hw, hx, hl⟩ := rdAll_sound hr
  have hc : conText nm (ts.map Tm.text) = l := by rw [conText_text, hx]
  refine ⟨⟨?_, fun x hx => ?_, by rw [hc]; exact hl⟩, hc⟩
  · cases hw with
    | con _ _ h _ => exact h
  · obtain ⟨a, ha, rfl⟩ := List.mem_map.1 hx
    have := (kids_read hr (a := a) ha).1
    unfold iKind
    rw [this]
    exact kind_pos a

/-- What the loop over the arguments holds. -/
def TermsRel (w : World) (xs : List ByteArray) (ts : List Tm) (rb : Nat) (vs : Value) (v4 v5 : Value) (wr : World) : Prop :=
  ∃ k : Nat, v5 = .int .i64 (k : Int) ∧ k ≤ xs.length ∧ v4 = .int .i64 (1 + (sizes (ts.take k) : Int)) ∧ wr.ownsRow rb 9 1 vs xs.length (strCells xs) ∧ Below w.heap.size w wr
/-- What the loop over an argument's arguments holds. -/
def MoreRel (w : World) (ys : List ByteArray) (xs : List ByteArray) (rb rx : Nat) (vs vx : Value) (v : Value) (wr : World) : Prop :=
  ∃ k : Nat, v = .int .i64 (k : Int) ∧ k ≤ ys.length ∧ wr.ownsRow rb 9 1 vs ys.length (strCells ys) ∧ wr.ownsRow rx 9 1 vx xs.length (strCells xs) ∧ Below w.heap.size w wr

set_option maxRecDepth 100000 in
set_option maxHeartbeats 4000000 in
theorem law_FnTerms (a : Option Addr) (len cap : Nat) (zs : List Int) (w : World) (hrow : IsRow .u8 w a len cap zs) (hE : Env w.heap.size w) :
    Calls Tryd.prog 3 #[.slice a len cap] w fun e w' => e = .returned (.bool true) ∧ Below w.heap.size w w' := by
  by_cases hbig : len ≤ 1048576
  · have hd : decide ((1048576 : Int) < (len : Int)) = false := decide_eq_false (by omega)
    have HC := Lib.hid (code_of hrow hbig)
    have HE := Lib.hid hE
    clear hrow hE
    go_enter Tryd.func3, Tryd.ntmps3
    go_wp2_with fail
    refine (big_any _).mono ?_
    rintro e w' ⟨rfl, rfl⟩
    rw [hd]
    go_wp2_with fail
    refine (drawTermKind_any _ HC.out).mono ?_
    rintro e w1 ⟨s, rfl, hs, hb1⟩
    have hlim : s.size ≤ 140737488351232 := by omega
    go_wp2_with fail
    refine (implTermKind s hlim _ (HE.out.stays hb1).top).mono ?_
    rintro e w2 ⟨rfl, hb2⟩
    have hb12 := hb1.trans (hb2.mono hb1.size)
    clear hb1 hb2
    cases hr : rdAll (lst s) with
    | none =>
      have hk : iKind (lst s) = 0 := by unfold iKind; rw [hr]
      have hpp : partsOf (lst s) = ([], []) := by unfold partsOf; rw [hr]
      have HPP := Lib.hid hpp
      have HK := Lib.hid hk
      have HZ := Lib.hid (sz_none hr)
      clear hr hk hpp
      rw [HK.out]
      go_wp2_with fail
      refine (implTermParts s hlim _ (HE.out.stays hb12).top).mono ?_
      rintro e w3 ⟨nm, xs, v, rfl, hpo, hown, hb3⟩
      rw [HPP.out] at hpo
      simp only [Prod.mk.injEq] at hpo
      obtain rfl : xs = [] := by simpa using hpo.2.symm
      have hnm : (nm.toList == []) = true := by
        have h1 : nm.data.toList = [] := hpo.1.symm
        rw [ByteArray.toList_eq, h1]; rfl
      obtain ⟨av, cv, rfl⟩ := owns_shape hown
      have hb13 := hb12.trans (hb3.mono hb12.size)
      clear hpo hown hb12 hb3
      go_wp2_with fail
      refine (specTermKind s hlim _).mono ?_
      rintro e w4 ⟨rfl, hb4⟩
      rw [HK.out]
      have hb14 := hb13.trans (hb4.mono hb13.size)
      clear hb13 hb4
      go_wp2_with fail
      refine (implTermSize s hlim _ (HE.out.stays hb14).top).mono ?_
      rintro e w5 ⟨rfl, hb5⟩
      rw [HZ.out]
      have hb15 := hb14.trans (hb5.mono hb14.size)
      clear hb14 hb5
      go_wp2
      go_ret
      exact ⟨rfl, hb15⟩
    | some t =>
      have hk : iKind (lst s) = t.kind := by unfold iKind; rw [hr]
      have HK := Lib.hid hk
      have HR := Lib.hid hr
      have HZ := Lib.hid (sz_some hr)
      have hb0 : (t.kind == 0) = false := beq_eq_false_iff_ne.2 (kind_pos t)
      rw [hk]
      clear hr hk
      by_cases h3 : t.kind = 3
      · obtain ⟨nm0, ts, rfl⟩ : ∃ nm0 ts, t = .con nm0 ts := by
          cases t with
          | num n => simp [Tm.kind] at h3
          | sym b => simp [Tm.kind] at h3
          | con nm0 ts => exact ⟨nm0, ts, rfl⟩
        have hpp : partsOf (lst s) = (nm0, ts.map Tm.text) := by unfold partsOf; rw [HR.out]
        have HPP := Lib.hid hpp
        have HMK := Lib.hid (make_parts HR.out)
        have HKF := Lib.hid (fun (a : Tm) (ha : a ∈ ts) => kid_facts HR.out (a := a) ha)
        obtain ⟨hw, hx, hl⟩ := rdAll_sound HR.out
        have hsz0 := size_le hw
        have hskk : (Tm.con nm0 ts).size = 1 + sizes ts := size_kids (.con nm0 ts)
        have hkc : ts.length ≤ 200 := Nat.le_trans (kids_count hw) (by rw [hx]; exact hl)
        have HJ := Lib.hid (show (Lib.join (ts.map Tm.text) [44]).length ≤ 200 from Nat.le_trans (join_le nm0 ts) (by rw [hx]; exact hl))
        have hsb : 1 + sizes ts ≤ 200 := by rw [hx] at hsz0; omega
        have HZ2 := Lib.hid (show sz (lst s) = 1 + sizes ts by rw [HZ.out, hskk])
        have HNL := Lib.hid (show nm0.length ≤ 20 by
          cases hw with
          | con _ _ h _ => exact (bigName_cons h).choose_spec.choose_spec.2.2.1)
        have HTL := Lib.hid (fun (a : Tm) (ha : a ∈ ts) => (show a.text.length ≤ 200 by have := (kids_read HR.out (a := a) ha).2; omega))
        rw [h3]
        clear hpp h3 hb0 hw hx hsz0 HZ
        go_wp2_with fail
        refine (implTermParts s hlim _ (HE.out.stays hb12).top).mono ?_
        rintro e w3 ⟨nm, xs, v, rfl, hpo, hown, hb3⟩
        rw [HPP.out] at hpo
        simp only [Prod.mk.injEq] at hpo
        obtain ⟨rfl, hxs⟩ := hpo
        have hlen : xs.length = ts.length := by have := congrArg List.length hxs; simpa using this.symm
        have hxn : xs.length ≤ 200 := by omega
        have hnl : nm.size ≤ 20 := by have := HNL.out; rw [lst_len] at this; exact this
        have HXS := Lib.hid hxs
        have HLEN := Lib.hid hlen
        have HXL := Lib.hid (fun (x : ByteArray) (h : x ∈ xs) => (show x.size ≤ 200 by
          have h1 : lst x ∈ ts.map Tm.text := by rw [hxs]; exact List.mem_map.2 ⟨x, h, rfl⟩
          obtain ⟨a, ha, he⟩ := List.mem_map.1 h1
          have := HTL.out a ha
          rw [he, lst_len] at this
          exact this))
        obtain ⟨av, cv, rfl⟩ := owns_shape hown
        have hb13 := hb12.trans (hb3.mono hb12.size)
        have HOWN := Lib.hid hown
        clear hxs hlen hown hb12 hb3
        go_wp2_with fail
        refine (specTermKind s hlim _).mono ?_
        rintro e w4 ⟨rfl, hb4⟩
        rw [HK.out]
        have hk3 : (Tm.con (lst nm) ts).kind = 3 := rfl
        rw [hk3]
        have hb14 := hb13.trans (hb4.mono hb13.size)
        have HOWN4 := Lib.hid (row_kept HOWN.out hb4)
        clear hb13 hb4 HOWN
        go_wp2_with fail
        refine (implTermMake nm xs _ _ w4 (HE.out.stays hb14).top HOWN4.out (by omega) (by omega) (fun x h => Nat.le_trans (HXL.out x h) (by omega)) (by rw [← HXS.out]; exact Nat.le_trans HJ.out (by omega))).mono ?_
        rintro e w5 ⟨⟨r5, ok5, rfl, hok5, hr5⟩, hb5⟩
        obtain rfl : ok5 = true := hok5.2 (by rw [← HXS.out]; exact HMK.out.1)
        obtain rfl : r5 = s := lst_inj (by rw [hr5, if_pos rfl, ← HXS.out]; exact HMK.out.2)
        have hb15 := hb14.trans (hb5.mono hb14.size)
        have HOWN5 := Lib.hid (row_kept HOWN4.out hb5)
        clear hok5 hr5 hb14 hb5 HOWN4
        go_wp2
        go_loopw [9, 10] (fun v4 v5 wr => TermsRel w xs ts w2.heap.size (.slice av xs.length cv) v4 v5 wr) (fun _ v _ => (xs.length - (intOf v).toNat))
        case atStart => exact ⟨0, rfl, Nat.zero_le _, by rw [List.take_zero, sizes]; rfl, HOWN5.out, hb15⟩
        case round =>
          obtain ⟨k, rfl, hk, rfl, hownr, hbr⟩ := hrel
          have hst := sizes_take_le ts k
          by_cases hlt : k < xs.length
          · have hltk : k < ts.length := by have := HLEN.out; omega
            obtain ⟨g, cap, hgv, _, hgl⟩ := hownr.form (by omega)
            simp only [Value.slice.injEq, true_and] at hgv
            obtain ⟨rfl, rfl⟩ := hgv
            have hx : wr.cell? ⟨g, k, none⟩ = some (.string xs[k]) := by
              rw [hownr.cellAt k (by omega)]
              simp [strCells, hlt]
            have hxt : lst xs[k] = (ts[k]).text := by
              have := congrArg (fun l => l[k]?) HXS.out
              simpa [hlt, hltk] using this.symm
            obtain ⟨f1, f2, f3, f4, f5⟩ := HKF.out ts[k] (List.getElem_mem hltk)
            have hxl := HXL.out xs[k] (List.getElem_mem hlt)
            rw [← hxt] at f1 f2 f3
            have HSZ := Lib.hid (sz_some f1)
            have HF1 := Lib.hid f1
            have HF2 := Lib.hid f2
            have HF3 := Lib.hid f3
            have HF5 := Lib.hid f5
            have hstk := sizes_take hltk
            have hle2 := sizes_take_le ts (k + 1)
            have f4' : (ts[k]).size < 1 + sizes ts := by omega
            have Z : ∀ w3, Below wr.heap.size wr w3 → TermsRel w xs ts w2.heap.size (.slice (some ⟨g, 0, none⟩) xs.length cv) (.int .i64 (1 + (sizes (ts.take k) : Int) + (ts[k].size : Int))) (.int .i64 ((k : Int) + 1)) w3 := fun w3 hb3 =>
              ⟨k + 1, by go_num, by omega, by
                rw [hstk]
                congr 1
                omega, row_kept hownr hb3, hbr.trans (hb3.mono hbr.size)⟩
            have HZ3 := Lib.hid Z
            have hsk2 : sizes (ts.take k) + ts[k].size ≤ 200 := by omega
            have HC3 := Lib.hid (fun (w3 : World) (h : Below wr.heap.size wr w3) => (h.cell hgl).trans hx)
            have HEr := Lib.hid (fun (w3 : World) (h : Below wr.heap.size wr w3) => ((HE.out.stays hbr).top.stays h).top)
            have HBR := Lib.hid hbr
            have HOR := Lib.hid hownr
            clear Z hstk hle2 hownr f1 f2 f3 f4 f5 hxt hbr
            generalize xs[k] = x at *
            generalize ts[k] = u at *
            generalize hzz : u.size = z at *
            clear hzz
            generalize sizes (ts.take k) = y2 at *
            go_wp2_with fail
            refine (implTermSize x (by omega) _ (HEr.out _ (Below.refl _ _))).mono ?_
            rintro e w6 ⟨rfl, hb6⟩
            rw [HSZ.out]
            have hx6 := HC3.out w6 hb6
            go_wp2_with fail
            refine (implInside x r5 (by omega) hlim _ (HEr.out _ hb6)).mono ?_
            rintro e w7 ⟨v7, rfl, hv7, hb7⟩
            obtain rfl : v7 = true := hv7.2 HF2.out
            have hb67 := hb6.trans (hb7.mono hb6.size)
            have hx7 := HC3.out w7 hb67
            clear hv7 hb6 hb7 hx6 hx
            go_wp2_with fail
            refine (implInside r5 x hlim (by omega) _ (HEr.out _ hb67)).mono ?_
            rintro e w8 ⟨v8, rfl, hv8, hb8⟩
            obtain rfl : v8 = false := by
              cases v8 with
              | false => rfl
              | true => exact absurd (hv8.1 rfl) HF3.out
            have hb68 := hb67.trans (hb8.mono hb67.size)
            have hx8 := HC3.out w8 hb68
            clear hv8 hb67 hb8 hx7
            go_wp2_with fail
            refine (implTermSize x (by omega) _ (HEr.out _ hb68)).mono ?_
            rintro e w9 ⟨rfl, hb9⟩
            rw [HSZ.out]
            have hb69 := hb68.trans (hb9.mono hb68.size)
            have hx9 := HC3.out w9 hb69
            clear hb68 hb9 hx8
            go_wp2_with fail
            refine (implTermSize r5 hlim _ (HEr.out _ hb69)).mono ?_
            rintro e w10 ⟨rfl, hb10⟩
            rw [HZ2.out]
            have hb610 := hb69.trans (hb10.mono hb69.size)
            have hx10 := HC3.out w10 hb610
            clear hb69 hb10 hx9
            have hcast : ((1 + sizes ts : Nat) : Int) = 1 + (sizes ts : Int) := by omega
            rw [hcast]
            have hge : decide (1 + (sizes ts : Int) ≤ (z : Int)) = false := decide_eq_false (by omega)
            clear hcast
            go_wp2_with fail
            refine (implTermParts x (by omega) _ (HEr.out _ hb610)).mono ?_
            rintro e w11 ⟨nm2, ys, v2, rfl, hpo2, hown2, hb11⟩
            have hys : ys.map lst = u.kids.map Tm.text := by rw [← parts_kids HF1.out, hpo2]
            have hlen2 : ys.length = u.kids.length := by have := congrArg List.length hys; simpa using this
            have hyn : ys.length ≤ 200 := by
              have h1 := (rdAll_sound HF1.out)
              have h2 := kids_count h1.1
              have h3 := h1.2.2
              rw [h1.2.1] at h2
              omega
            have HYL := Lib.hid (fun (y : ByteArray) (h : y ∈ ys) => (show y.size ≤ 200 ∧ InsideIs (lst y) (lst r5) by
              have h1 : lst y ∈ u.kids.map Tm.text := by rw [← hys]; exact List.mem_map.2 ⟨y, h, rfl⟩
              obtain ⟨b, hb, he⟩ := List.mem_map.1 h1
              have h2 := (kids_read HF1.out hb).2
              have h3 := HF5.out b hb
              rw [he] at h3
              rw [he, lst_len, lst_len] at h2
              exact ⟨by omega, h3⟩))
            obtain ⟨av2, cv2, rfl⟩ := owns_shape hown2
            have hb611 := hb610.trans (hb11.mono hb610.size)
            have hor11 := row_kept HOR.out hb611
            clear hpo2 hys hlen2 hb610 hb11 hx10
            go_wp2
            go_loopw [13] (fun v wx => MoreRel wr ys xs w10.heap.size w2.heap.size (.slice av2 ys.length cv2) (.slice (some ⟨g, 0, none⟩) xs.length cv) v wx) (fun v _ => (ys.length - (intOf v).toNat))
            case atStart => exact ⟨0, rfl, Nat.zero_le _, hown2, hor11, hb611⟩
            case round =>
              obtain ⟨j, rfl, hj, hownj, horj, hbj⟩ := hrel
              by_cases hltj : j < ys.length
              · obtain ⟨g2, cap2, hgv2, _, hgl2⟩ := hownj.form (by omega)
                simp only [Value.slice.injEq, true_and] at hgv2
                obtain ⟨rfl, rfl⟩ := hgv2
                have hy : wr.cell? ⟨g2, j, none⟩ = some (.string ys[j]) := by
                  rw [hownj.cellAt j (by omega)]
                  simp [strCells, hltj]
                have hxj := HC3.out wr hbj
                obtain ⟨hyl, hyi⟩ := HYL.out ys[j] (List.getElem_mem hltj)
                have HYI := Lib.hid hyi
                have Z : ∀ w3, Below wr.heap.size wr w3 → MoreRel _ ys xs w10.heap.size w2.heap.size (.slice (some ⟨g2, 0, none⟩) ys.length cv2) (.slice (some ⟨g, 0, none⟩) xs.length cv) (.int .i64 ((j : Int) + 1)) w3 := fun w3 hb3 =>
                  ⟨j + 1, by go_num, by omega, row_kept hownj hb3, row_kept horj hb3, hbj.trans (hb3.mono hbj.size)⟩
                have HZJ := Lib.hid Z
                have HCY := Lib.hid (fun (w3 : World) (h : Below wr.heap.size wr w3) => (h.cell hgl2).trans hy)
                have HBJ := Lib.hid hbj
                clear Z hyi hownj horj hbj
                generalize ys[j] = y at *
                go_wp2_with fail
                refine (implTermKind x (by omega) _ (HEr.out _ HBJ.out)).mono ?_
                rintro e w12 ⟨rfl, hb12⟩
                have hy12 := HCY.out w12 hb12
                by_cases hk3 : iKind (lst x) = 3
                · rw [hk3]
                  have HB12 := Lib.hid (HBJ.out.trans (hb12.mono HBJ.out.size))
                  have HBW := Lib.hid hb12
                  clear hk3 hb12 hy hxj
                  go_wp2_with fail
                  refine (implInside y r5 (by omega) hlim _ (HEr.out _ HB12.out)).mono ?_
                  rintro e w13 ⟨v13, rfl, hv13, hb13⟩
                  obtain rfl : v13 = true := hv13.2 HYI.out
                  have HRR := Lib.hid (HZJ.out w13 (HBW.out.trans (hb13.mono HBW.out.size)))
                  clear hv13 hb13 hy12
                  go_wp2
                  go_roundw
                  case rel => exact HRR.out
                  case measure => simp [intOf]; omega
                · have hkb : (iKind (lst x) == 3) = false := beq_eq_false_iff_ne.2 hk3
                  have HRR := Lib.hid (HZJ.out w12 hb12)
                  clear hk3 hb12 hy hxj hy12
                  generalize iKind (lst x) = q at *
                  go_wp2
                  go_roundw
                  case rel => exact HRR.out
                  case measure => simp [intOf]; omega
              · have hltj2 : decide ((j : Int) < (ys.length : Int)) = false := decide_eq_false (by omega)
                have HRR := Lib.hid (HZ3.out wr hbj)
                clear hownj horj hbj
                go_wp2
                go_roundw
                case rel => exact HRR.out
                case measure => simp [intOf]; omega
          · have hlt2 : decide ((k : Int) < (xs.length : Int)) = false := decide_eq_false (by omega)
            have htk : ts.take k = ts := List.take_of_length_le (by have := HLEN.out; omega)
            rw [htk]
            have HBR := Lib.hid hbr
            have hEr := (HE.out.stays hbr).top
            have HEr := Lib.hid hEr
            clear htk hownr hbr hEr
            generalize sizes ts = y at *
            have hss : (r5.toList == r5.toList) = true := by simp
            go_wp2_with fail
            refine (implTermSize r5 hlim _ HEr.out).mono ?_
            rintro e w6 ⟨rfl, hb6⟩
            rw [HZ2.out]
            have hb16 := HBR.out.trans (hb6.mono HBR.out.size)
            have hcast : ((1 + y : Nat) : Int) = 1 + (y : Int) := by omega
            rw [hcast]
            clear hb6
            go_wp2
            go_ret
            exact ⟨rfl, hb16⟩
      · have hpp : partsOf (lst s) = (lst s, []) := by
          unfold partsOf
          rw [HR.out]
          cases t with
          | num n => rfl
          | sym b => rfl
          | con nm ts => exact absurd rfl h3
        have hsz : t.size = 1 := by
          cases t with
          | num n => rw [Tm.size]
          | sym b => rw [Tm.size]
          | con nm ts => exact absurd rfl h3
        have HPP := Lib.hid hpp
        have HZ2 := Lib.hid (show sz (lst s) = 1 by rw [HZ.out, hsz])
        have hk3 : (t.kind == 3) = false := beq_eq_false_iff_ne.2 h3
        clear hpp hsz h3 HR HZ
        generalize t.kind = y at *
        go_wp2_with fail
        refine (implTermParts s hlim _ (HE.out.stays hb12).top).mono ?_
        rintro e w3 ⟨nm, xs, v, rfl, hpo, hown, hb3⟩
        rw [HPP.out] at hpo
        simp only [Prod.mk.injEq] at hpo
        obtain rfl : xs = [] := by simpa using hpo.2.symm
        obtain rfl : nm = s := lst_inj hpo.1.symm
        have hss : (nm.toList == nm.toList) = true := by simp
        obtain ⟨av, cv, rfl⟩ := owns_shape hown
        have hb13 := hb12.trans (hb3.mono hb12.size)
        clear hpo hown hb12 hb3
        go_wp2_with fail
        refine (specTermKind nm hlim _).mono ?_
        rintro e w4 ⟨rfl, hb4⟩
        rw [HK.out]
        have hb14 := hb13.trans (hb4.mono hb13.size)
        clear hb13 hb4
        go_wp2_with fail
        refine (implTermSize nm hlim _ (HE.out.stays hb14).top).mono ?_
        rintro e w5 ⟨rfl, hb5⟩
        rw [HZ2.out]
        have hb15 := hb14.trans (hb5.mono hb14.size)
        clear hb14 hb5
        go_wp2
        go_ret
        exact ⟨rfl, hb15⟩
  · have hd : decide ((1048576 : Int) < (len : Int)) = true := decide_eq_true (by omega)
    clear hrow
    go_enter Tryd.func3, Tryd.ntmps3
    go_wp2_with fail
    refine (big_any _).mono ?_
    rintro e w' ⟨rfl, rfl⟩
    rw [hd]
    go_wp2
    go_ret
    exact ⟨rfl, Below.refl _ _⟩

end Go.Proofs.YtkhliflgflhheaaDoor
