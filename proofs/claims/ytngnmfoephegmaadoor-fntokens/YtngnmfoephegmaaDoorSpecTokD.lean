/-
  spec.Tokens: a round that meets a symbol.
-/
import Derived.Test.YtngnmfoephegmaaDoorSpecTokA
namespace Go.Proofs.YtngnmfoephegmaaDoor
open Go Go.RowKit Go.Maps Go.WideMaps

set_option maxRecDepth 1000000 in
set_option maxHeartbeats 4000000 in
theorem specCase_sym (s : ByteArray) (hs : s.size ≤ 3000) (w : World) (Q0 : Exit → Act → World → Prop) (hret : RetOf s w Q0) (u : Nat → Value) (p : Nat) (ts : List Tk) (v6 : Value) (wr : World) (hst : TokSt s w p ts v6 wr) (hlt : p < s.size) (hbk : isBlk s[p] = false) (hcm : isCom (lst s) p = false) (hnm : (isBig s[p] || isSml s[p]) = false) (hdg : inB 48 57 s[p] = false) (h34 : s[p].toNat = 34) :
    Code.wp Tryd.prog ((Tryd.f8.body.bind firstLoop).getD .skip) (Exit.then (fun a' w'' => SpecI s w a' w'' ∧ specMu s a' < s.size - p) Q0) { tmps := #[.string s, u 1, u 2, u 3, u 4, .slice (some ⟨w.heap.size, 0, none⟩) 0 0, v6, .int .i64 (p : Int), u 8, u 9, u 10, u 11, u 12, u 13, u 14, u 15, u 16, u 17, u 18, u 19, u 20, u 21, u 22, u 23, u 24, u 25, u 26, u 27, u 28, u 29, u 30, u 31, u 32, u 33, u 34, u 35, u 36, u 37, u 38, u 39, u 40, u 41, u 42, u 43, u 44, u 45, u 46, u 47, u 48, u 49, u 50, u 51, u 52, u 53, u 54, u 55, u 56, u 57, u 58, u 59, u 60, u 61, u 62, u 63, u 64, u 65, u 66, u 67, u 68, u 69, u 70, u 71, u 72, u 73, u 74, u 75, u 76, u 77, u 78, u 79, u 80, u 81, u 82, u 83, u 84, u 85, u 86, u 87, u 88, u 89, u 90, u 91, u 92, u 93, u 94, u 95, u 96, u 97, u 98, u 99, u 100, u 101, u 102, u 103, u 104, u 105, u 106, u 107, u 108, u 109, u 110, u 111, u 112, u 113, u 114, u 115, u 116, u 117, u 118, u 119, u 120, u 121, u 122, u 123, u 124, u 125, u 126, u 127, u 128, u 129, u 130, u 131, u 132, u 133, u 134, u 135, u 136, u 137, u 138, u 139, u 140, u 141, u 142, u 143, u 144, u 145, u 146, u 147, u 148, u 149, u 150, u 151, u 152, u 153, u 154, u 155, u 156, u 157, u 158, u 159, u 160, u 161, u 162, u 163, u 164, u 165, u 166, u 167, u 168, u 169, u 170, u 171, u 172, u 173, u 174, u 175, u 176, u 177, u 178, u 179, u 180, u 181, u 182, u 183, u 184, u 185, u 186, u 187, u 188, u 189, u 190], defers := [] } wr := by
  have HL := Lib.hid (lst_len s)
  have HRET := Lib.hid hret
  clear hret
  obtain ⟨i0, hi, hz0, hz1, hz2⟩ := info_parts infoTok
  conv => arg 2; whnf
  have HNM := Lib.hid hnm
  have H34 := Lib.hid h34
  clear h34
  have HDD := Lib.hid hdg
  clear hdg
  clear hnm
  have HLT : Hid (p < (lst s).length) := Lib.hid (by rw [HL.out]; exact hlt)
  have hltn : p < s.size := hlt
  go_upto_region 15 with (fail)
  generalize hz : (s[p].toNat : Int) = z
  have HZ := Lib.hid hz
  clear hz
  have hnz : z ≠ 32 ∧ z ≠ 9 ∧ z ≠ 10 ∧ z ≠ 13 := by
    have := blk_no hbk
    rw [← HZ.out]; omega
  have e32 : (z == 32) = false := beq_eq_false_iff_ne.2 hnz.1
  have e9 : (z == 9) = false := beq_eq_false_iff_ne.2 hnz.2.1
  have e10 : (z == 10) = false := beq_eq_false_iff_ne.2 hnz.2.2.1
  have e13 : (z == 13) = false := beq_eq_false_iff_ne.2 hnz.2.2.2
  clear hnz
  have HNC := Lib.hid hcm
  have HNB := Lib.hid hbk
  obtain ⟨av, cv, rfl⟩ := owns_shape hst.own
  have hBs := hst.bel.size
  have hts : ts.length ≤ 3000 := Nat.le_trans hst.len (Nat.le_trans hst.le hs)
  have HST := Lib.hid hst
  clear hst hbk
  go_upto_region 17 with (fail)
  go_cut [61] from 20 to 189 (fun v61 wx => (wr.alloc (.cells #[.int .i64 0, .string ⟨#[]⟩, .int .i64 (p : Int)] 29)) = wx ∧ v61 = .bool false)
  case first =>
    by_cases h47 : z = 47
    · by_cases hp1 : p + 1 < s.size
      · have hn47 : ¬ s[p + 1].toNat = 47 := fun h => by
          unfold isCom at hcm
          rw [List.getElem?_eq_getElem HLT.out, List.getElem?_eq_getElem (by rw [HL.out]; exact hp1 : p + 1 < (lst s).length)] at hcm
          have e1 : (lst s)[p]'HLT.out = s[p] := rfl
          have e2 : (lst s)[p + 1]'(by rw [HL.out]; exact hp1) = s[p + 1] := rfl
          rw [e1, e2] at hcm
          have hz47 : s[p].toNat = 47 := by have := HZ.out; omega
          simp [hz47, h] at hcm
        have hn47b : ((s[p + 1].toNat : Int) == 47) = false := by simp; omega
        subst h47
        clear hcm e32 e9 e10 e13 hn47
        go_wp2
        go_meet
        exact ⟨rfl, rfl⟩
      · have hp2 : decide ((p : Int) + 1 < (s.size : Int)) = false := by simp; omega
        subst h47
        clear hcm e32 e9 e10 e13
        go_wp2
        go_meet
        exact ⟨rfl, rfl⟩
    · have e47 : (z == 47) = false := beq_eq_false_iff_ne.2 h47
      clear hcm e32 e9 e10 e13
      go_wp2
      go_meet
      exact ⟨rfl, rfl⟩
  case rest =>
    clear hcm e32 e9 e10 e13
    obtain ⟨rfl, rfl⟩ := hcut
    go_upto_region 20 with (fail)
    have HSM := Lib.hid (fun W => l01Small_any s[p] W)
    have HBG := Lib.hid (fun W => l01Big_any s[p] W)
    have HDG := Lib.hid (fun W => l01Digit_any s[p] W)
    rw [HZ.out] at HSM HBG HDG
    go_cut [90] from 20 to 189 (fun v90 wx => (wr.alloc (.cells #[.int .i64 0, .string ⟨#[]⟩, .int .i64 (p : Int)] 29)) = wx ∧ v90 = .bool false)
    case first =>
      cases hsm : inB 97 122 s[p]
      · rw [hsm] at HSM
        have HBO : Hid ((isBig s[p] || isSml s[p]) = inB 65 90 s[p]) := Lib.hid (by rw [isBig_inB, isSml_inB, hsm, Bool.or_false])
        clear hsm
        generalize inB 65 90 s[p] = bb at *
        go_wp2_with (first
          | (go_at_call 28; refine (HSM.out _).mono ?_; rintro e w' ⟨rfl, rfl⟩)
          | (go_at_call 29; refine (HBG.out _).mono ?_; rintro e w' ⟨rfl, rfl⟩))
        go_meet
        exact ⟨rfl, by rw [← HBO.out, HNM.out]⟩
      · rw [hsm] at HSM
        have HBO : Hid ((isBig s[p] || isSml s[p]) = true) := Lib.hid (by rw [isSml_inB, hsm, Bool.or_true])
        clear hsm
        go_wp2_with (first
          | (go_at_call 28; refine (HSM.out _).mono ?_; rintro e w' ⟨rfl, rfl⟩)
          | (go_at_call 29; refine (HBG.out _).mono ?_; rintro e w' ⟨rfl, rfl⟩))
        go_meet
        exact ⟨rfl, by rw [← HNM.out, HBO.out]⟩
    case rest =>
      obtain ⟨rfl, rfl⟩ := hcut
      have hnm := HNM.out
      have hdg := HDD.out
      have h34 := H34.out
      have hsm0 : isDig s[p] = inB 48 57 s[p] := rfl
      rw [hdg] at HDG hsm0
      clear HSM HBG
      have HT := Lib.hid (tokAt_sym HLT.out hnm hsm0 h34)
      have hz34 : z = 34 := by rw [← HZ.out, h34]; rfl
      clear hnm hsm0 hdg h34 HZ
      subst hz34
      go_upto_block 9 with (go_at_call 31; refine (HDG.out _).mono ?_; rintro e w' ⟨rfl, rfl⟩)
      go_cut [10] from 20 to 189 (fun v10 wx => (wr.alloc (.cells #[.int .i64 0, .string ⟨#[]⟩, .int .i64 (p : Int)] 29)) = wx ∧ v10 = .int .i64 (stopAt (notB 34) (lst s) (p + 1) : Int))
      case first =>
        go_wp2_with fail
        go_loopw [10] (fun v wx => ScanRel (notB 34) s (p + 1) (wr.alloc (.cells #[.int .i64 0, .string ⟨#[]⟩, .int .i64 (p : Int)] 29)) v wx) (fun v _ => (s.size - (intOf v).toNat))
        case atStart => exact ⟨p + 1, rfl, by go_num, Nat.le_refl _, by omega, fun j h a b => by omega⟩
        case round =>
          obtain ⟨r, rfl, rfl, hqr, hr, hall⟩ := hrel
          have HALL := Lib.hid hall
          clear hall
          by_cases hlr : r < s.size
          · by_cases hd : s[r].toNat = 34
            · have HQ := Lib.hid (stopAt_upto hqr (by rw [HL.out]; exact hlr) HALL.out (notB_no hd))
              go_wp2
              go_meet
              exact ⟨rfl, by rw [HQ.out]⟩
            · have HD2 : Hid (∀ j (h : j < (lst s).length), p + 1 ≤ j → j < r + 1 → notB 34 (lst s)[j] = true) := Lib.hid (fun j h a b => by
                by_cases hj : j < r
                · exact HALL.out j h a hj
                · obtain rfl : j = r := by omega
                  exact notB_yes hd)
              have hd2 : ((s[r].toNat : Int) != 34) = true := by simp; omega
              clear hd
              go_wp2
              go_roundw
              case rel => exact ⟨r + 1, rfl, by go_num, by omega, by omega, HD2.out⟩
              case measure => simp [intOf]; omega
          · have HQ := Lib.hid (stopAt_full (P := notB 34) (l := lst s) (p := p + 1) (by rw [HL.out]; omega) (fun j h a => HALL.out j h a (by rw [HL.out] at h; omega)))
            have hlt2 : decide ((r : Int) < (s.size : Int)) = false := by simp; omega
            go_wp2
            go_meet
            exact ⟨rfl, by rw [HQ.out, HL.out]; congr 2; omega⟩
      case rest =>
        obtain ⟨rfl, rfl⟩ := hcut
        clear HDG
        have hel := stopAt_le (notB 34) (lst s) (p + 1) (by have := HLT.out; omega)
        have HTK := Lib.hid (fun W => specTermKind (s.extract p (stopAt (notB 34) (lst s) (p + 1) + 1)) (by have := extract_le s p (stopAt (notB 34) (lst s) (p + 1) + 1); omega) W)
        rw [lst_extract] at HTK
        generalize iKind (((lst s).drop p).take (stopAt (notB 34) (lst s) (p + 1) + 1 - p)) = ik at *
        generalize stopAt (notB 34) (lst s) (p + 1) = q at *
        obtain ⟨he1, he2⟩ := hel
        have hes : q ≤ s.size := by have := HL.out; omega
        clear he2
        by_cases hq : q < s.size
        · have hq2 : ((q : Int) == (s.size : Int)) = false := by simp; omega
          by_cases hik : ik = 2
          · rw [if_pos ⟨by rw [HL.out]; exact hq, hik⟩] at HT
            have hik2 : (ik != 2) = false := by rw [hik]; rfl
            clear hik
            go_wp2_with fail
            refine (HTK.out _).mono ?_
            rintro x w2 ⟨rfl, hb2⟩
            have hbA := (tok_block wr p).1
            have hgA := (tok_block wr p).2.1
            have hkA := (tok_block wr p).2.2
            have hkB := (hb2.block _ hgA).trans hkA
            have hb3 := hbA.trans (hb2.mono hbA.size)
            have c0 := cell_of_row w2 wr.heap.size 0 _ _ _ hkB
            have c1 := cell_of_row w2 wr.heap.size 1 _ _ _ hkB
            have c2 := cell_of_row w2 wr.heap.size 2 _ _ _ hkB
            simp at c0 c1 c2
            have f0 : w2.frozen? ⟨wr.heap.size, 0, none⟩ = false := by simp [World.frozen?, hkB]
            have f1 : w2.frozen? ⟨wr.heap.size, 1, none⟩ = false := by simp [World.frozen?, hkB]
            have hg2 : wr.heap.size < w2.heap.size := Nat.lt_of_lt_of_le hgA hb2.size
            have HB3 := Lib.hid hb3
            clear hbA hgA hkA hkB hb2 hb3
            have hbX := (HB3.out.setCell (p := ⟨wr.heap.size, 0, none⟩) (Nat.le_refl _) (.int .i64 4)).setCell (p := ⟨wr.heap.size, 1, none⟩) (Nat.le_refl _) (.string (s.extract p (q + 1)))
            have hbY := HST.out.bel.trans (hbX.mono hBs)
            have hol := (row_kept HST.out.own hbX).alloc (.cells #[.int .i64 4, .string (s.extract p (q + 1)), .int .i64 (p : Int)] 29)
            have hnw := World.news_of_block (cs := #[.int .i64 4, .string (s.extract p (q + 1)), .int .i64 (p : Int)]) (t := 29) (fr := (0, 0)) (heap_alloc_new ((w2.setCell ⟨wr.heap.size, 0, none⟩ (.int .i64 4)).setCell ⟨wr.heap.size, 1, none⟩ (.string (s.extract p (q + 1)))) _)
            rw [show ((w2.setCell ⟨wr.heap.size, 0, none⟩ (.int .i64 4)).setCell ⟨wr.heap.size, 1, none⟩ (.string (s.extract p (q + 1)))).heap.size = w2.heap.size from by simp] at hnw
            have HOL := Lib.hid hol
            have HNW := Lib.hid hnw
            have HBY := Lib.hid hbY
            clear hol hnw hbX hbY
            go_wp2_with (at_builtin; refine wpList_append_lies _ rfl (.tmp 185) (.tmp 187) 25 rfl w.heap.size 29 i0 (.agg #[.int .i64 0, .string ⟨#[]⟩, .int .i64 0]) 3 32 Tryd.underlying25 hi hz0 hz1 hz2 rfl (by decide) (.slice av ts.length cv) ts.length (tokCells s ts) rfl HOL.out ⟨w2.heap.size, 0, none⟩ 1 1 [.int .i64 4, .string (s.extract p (q + 1)), .int .i64 (p : Int)] rfl rfl HNW.out (by simp [Value.oneCell']) (by omega) (by unfold maxLen; omega) (by omega) (by simp; omega) _ rfl ?_)
            intro g cap w1 hown1 hgrow hat hltg
            have hb1 : Below w.heap.size w w1 := (HBY.out.alloc (by simp; omega) _).grown hgrow (by simp; omega) (own_ge HOL.out)
            have R : TokSt s w (q + 1) (ts ++ [⟨4, p, q + 1⟩]) (.slice (some ⟨g, 0, none⟩) (ts.length + 1) cap) w1 :=
              tok_next (t := ⟨4, p, q + 1⟩) HL.out (Nat.le_refl p) hlt HST.out.len HST.out.res rfl (fun _ => ⟨HNB.out, HNC.out⟩) HT.out hown1 hb1
            clear hown1 hgrow hat hltg hb1 HOL HNW HBY HT HST HNB HNC HB3
            go_wp2
            refine ⟨SpecI_of (p := q + 1) _ rfl (by go_num) (R), ?_⟩
            show s.size - (intOf (.int .i64 _)).toNat < s.size - p
            simp [intOf]; omega
          · rw [if_neg (fun h => hik h.2)] at HT
            have hik2 : (ik != 2) = true := by simp [hik]
            clear hik
            go_wp2_with fail
            refine (HTK.out _).mono ?_
            rintro x w2 ⟨rfl, hb2⟩
            have hans : tokAns (lst s) = .bad p 3 := by unfold tokAns; rw [if_neg (by have := HL.out; omega)]; exact ans_bad HST.out.res rfl HLT.out ⟨HNB.out, HNC.out⟩ HT.out
            have hbl : Below w.heap.size w w2 := HST.out.bel.trans (((tok_block wr p).1.trans (hb2.mono (tok_block wr p).1.size)).mono hBs)
            have HANS := Lib.hid hans
            clear hans
            clear HT HST HNB HNC hb2
            go_wp2
            exact HRET.out _ _ _ _ HANS.out hbl rfl rfl rfl rfl
        · obtain rfl : q = s.size := by omega
          rw [if_neg (fun h => by have := h.1; rw [HL.out] at this; omega)] at HT
          have hans : tokAns (lst s) = .bad p 3 := by unfold tokAns; rw [if_neg (by have := HL.out; omega)]; exact ans_bad HST.out.res rfl HLT.out ⟨HNB.out, HNC.out⟩ HT.out
          have hbl : Below w.heap.size w (wr.alloc (.cells #[.int .i64 0, .string ⟨#[]⟩, .int .i64 (p : Int)] 29)) := HST.out.bel.alloc hBs _
          have HANS := Lib.hid hans
          clear hans
          clear HT HST HNB HNC
          go_wp2
          exact HRET.out _ _ _ _ HANS.out hbl rfl rfl rfl rfl


end Go.Proofs.YtngnmfoephegmaaDoor
