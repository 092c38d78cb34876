/-
  THE WALK over spec.Tokens, put together.
-/
import Derived.Test.YtngnmfoephegmaaDoorSpecTokB
import Derived.Test.YtngnmfoephegmaaDoorSpecTokC
import Derived.Test.YtngnmfoephegmaaDoorSpecTokD
import Derived.Test.YtngnmfoephegmaaDoorSpecTokE
namespace Go.Proofs.YtngnmfoephegmaaDoor
open Go Go.RowKit Go.Maps Go.WideMaps

set_option maxRecDepth 1000000 in
/-- What is asked where the loop ends. -/
def EndAt (s : ByteArray) (w : World) (Q : Exit → Act → World → Prop) : Prop :=
  ∀ (u : Nat → Value) (w' : World) (ts : List Tk) (v6 : Value), tokAns (lst s) = .ok ts → TokSt s w s.size ts v6 w' → Q (.exit 0) { tmps := #[.string s, u 1, u 2, u 3, u 4, u 5, v6, u 7, u 8, u 9, u 10, u 11, u 12, u 13, u 14, u 15, u 16, u 17, u 18, u 19, u 20, u 21, u 22, u 23, u 24, u 25, u 26, u 27, u 28, u 29, u 30, u 31, u 32, u 33, u 34, u 35, u 36, u 37, u 38, u 39, u 40, u 41, u 42, u 43, u 44, u 45, u 46, u 47, u 48, u 49, u 50, u 51, u 52, u 53, u 54, u 55, u 56, u 57, u 58, u 59, u 60, u 61, u 62, u 63, u 64, u 65, u 66, u 67, u 68, u 69, u 70, u 71, u 72, u 73, u 74, u 75, u 76, u 77, u 78, u 79, u 80, u 81, u 82, u 83, u 84, u 85, u 86, u 87, u 88, u 89, u 90, u 91, u 92, u 93, u 94, u 95, u 96, u 97, u 98, u 99, u 100, u 101, u 102, u 103, u 104, u 105, u 106, u 107, u 108, u 109, u 110, u 111, u 112, u 113, u 114, u 115, u 116, u 117, u 118, u 119, u 120, u 121, u 122, u 123, u 124, u 125, u 126, u 127, u 128, u 129, u 130, u 131, u 132, u 133, u 134, u 135, u 136, u 137, u 138, u 139, u 140, u 141, u 142, u 143, u 144, u 145, u 146, u 147, u 148, u 149, u 150, u 151, u 152, u 153, u 154, u 155, u 156, u 157, u 158, u 159, u 160, u 161, u 162, u 163, u 164, u 165, u 166, u 167, u 168, u 169, u 170, u 171, u 172, u 173, u 174, u 175, u 176, u 177, u 178, u 179, u 180, u 181, u 182, u 183, u 184, u 185, u 186, u 187, u 188, u 189, u 190], defers := [] } w'
set_option maxRecDepth 1000000 in
theorem EndAt.mk {s : ByteArray} {w w' : World} {Q : Exit → Act → World → Prop} (h : EndAt s w Q) {ts : List Tk} {v6 : Value} (hans : tokAns (lst s) = .ok ts) (R : TokSt s w s.size ts v6 w') (arr : Array Value) (ha : ({ tmps := arr, defers := [] } : Act) = { tmps := #[.string s, arr.getD 1 undef, arr.getD 2 undef, arr.getD 3 undef, arr.getD 4 undef, arr.getD 5 undef, v6, arr.getD 7 undef, arr.getD 8 undef, arr.getD 9 undef, arr.getD 10 undef, arr.getD 11 undef, arr.getD 12 undef, arr.getD 13 undef, arr.getD 14 undef, arr.getD 15 undef, arr.getD 16 undef, arr.getD 17 undef, arr.getD 18 undef, arr.getD 19 undef, arr.getD 20 undef, arr.getD 21 undef, arr.getD 22 undef, arr.getD 23 undef, arr.getD 24 undef, arr.getD 25 undef, arr.getD 26 undef, arr.getD 27 undef, arr.getD 28 undef, arr.getD 29 undef, arr.getD 30 undef, arr.getD 31 undef, arr.getD 32 undef, arr.getD 33 undef, arr.getD 34 undef, arr.getD 35 undef, arr.getD 36 undef, arr.getD 37 undef, arr.getD 38 undef, arr.getD 39 undef, arr.getD 40 undef, arr.getD 41 undef, arr.getD 42 undef, arr.getD 43 undef, arr.getD 44 undef, arr.getD 45 undef, arr.getD 46 undef, arr.getD 47 undef, arr.getD 48 undef, arr.getD 49 undef, arr.getD 50 undef, arr.getD 51 undef, arr.getD 52 undef, arr.getD 53 undef, arr.getD 54 undef, arr.getD 55 undef, arr.getD 56 undef, arr.getD 57 undef, arr.getD 58 undef, arr.getD 59 undef, arr.getD 60 undef, arr.getD 61 undef, arr.getD 62 undef, arr.getD 63 undef, arr.getD 64 undef, arr.getD 65 undef, arr.getD 66 undef, arr.getD 67 undef, arr.getD 68 undef, arr.getD 69 undef, arr.getD 70 undef, arr.getD 71 undef, arr.getD 72 undef, arr.getD 73 undef, arr.getD 74 undef, arr.getD 75 undef, arr.getD 76 undef, arr.getD 77 undef, arr.getD 78 undef, arr.getD 79 undef, arr.getD 80 undef, arr.getD 81 undef, arr.getD 82 undef, arr.getD 83 undef, arr.getD 84 undef, arr.getD 85 undef, arr.getD 86 undef, arr.getD 87 undef, arr.getD 88 undef, arr.getD 89 undef, arr.getD 90 undef, arr.getD 91 undef, arr.getD 92 undef, arr.getD 93 undef, arr.getD 94 undef, arr.getD 95 undef, arr.getD 96 undef, arr.getD 97 undef, arr.getD 98 undef, arr.getD 99 undef, arr.getD 100 undef, arr.getD 101 undef, arr.getD 102 undef, arr.getD 103 undef, arr.getD 104 undef, arr.getD 105 undef, arr.getD 106 undef, arr.getD 107 undef, arr.getD 108 undef, arr.getD 109 undef, arr.getD 110 undef, arr.getD 111 undef, arr.getD 112 undef, arr.getD 113 undef, arr.getD 114 undef, arr.getD 115 undef, arr.getD 116 undef, arr.getD 117 undef, arr.getD 118 undef, arr.getD 119 undef, arr.getD 120 undef, arr.getD 121 undef, arr.getD 122 undef, arr.getD 123 undef, arr.getD 124 undef, arr.getD 125 undef, arr.getD 126 undef, arr.getD 127 undef, arr.getD 128 undef, arr.getD 129 undef, arr.getD 130 undef, arr.getD 131 undef, arr.getD 132 undef, arr.getD 133 undef, arr.getD 134 undef, arr.getD 135 undef, arr.getD 136 undef, arr.getD 137 undef, arr.getD 138 undef, arr.getD 139 undef, arr.getD 140 undef, arr.getD 141 undef, arr.getD 142 undef, arr.getD 143 undef, arr.getD 144 undef, arr.getD 145 undef, arr.getD 146 undef, arr.getD 147 undef, arr.getD 148 undef, arr.getD 149 undef, arr.getD 150 undef, arr.getD 151 undef, arr.getD 152 undef, arr.getD 153 undef, arr.getD 154 undef, arr.getD 155 undef, arr.getD 156 undef, arr.getD 157 undef, arr.getD 158 undef, arr.getD 159 undef, arr.getD 160 undef, arr.getD 161 undef, arr.getD 162 undef, arr.getD 163 undef, arr.getD 164 undef, arr.getD 165 undef, arr.getD 166 undef, arr.getD 167 undef, arr.getD 168 undef, arr.getD 169 undef, arr.getD 170 undef, arr.getD 171 undef, arr.getD 172 undef, arr.getD 173 undef, arr.getD 174 undef, arr.getD 175 undef, arr.getD 176 undef, arr.getD 177 undef, arr.getD 178 undef, arr.getD 179 undef, arr.getD 180 undef, arr.getD 181 undef, arr.getD 182 undef, arr.getD 183 undef, arr.getD 184 undef, arr.getD 185 undef, arr.getD 186 undef, arr.getD 187 undef, arr.getD 188 undef, arr.getD 189 undef, arr.getD 190 undef], defers := [] }) : Q (.exit 0) { tmps := arr, defers := [] } w' := by
  rw [ha]
  exact h (fun i => arr.getD i undef) w' ts v6 hans R

set_option maxRecDepth 1000000 in
set_option maxHeartbeats 4000000 in
theorem specCase_end (s : ByteArray) (hs : s.size ≤ 3000) (w : World) (Q0 : Exit → Act → World → Prop) (hend : EndAt s w Q0) (u : Nat → Value) (p : Nat) (ts : List Tk) (v6 : Value) (wr : World) (hst : TokSt s w p ts v6 wr) (hlt : ¬ p < s.size) :
    Code.wp Tryd.prog ((Tryd.f8.body.bind firstLoop).getD .skip) (Exit.then (fun a' w'' => SpecI s w a' w'' ∧ specMu s a' < s.size - p) Q0) { tmps := #[.string s, u 1, u 2, u 3, u 4, .slice (some ⟨w.heap.size, 0, none⟩) 0 0, v6, .int .i64 (p : Int), u 8, u 9, u 10, u 11, u 12, u 13, u 14, u 15, u 16, u 17, u 18, u 19, u 20, u 21, u 22, u 23, u 24, u 25, u 26, u 27, u 28, u 29, u 30, u 31, u 32, u 33, u 34, u 35, u 36, u 37, u 38, u 39, u 40, u 41, u 42, u 43, u 44, u 45, u 46, u 47, u 48, u 49, u 50, u 51, u 52, u 53, u 54, u 55, u 56, u 57, u 58, u 59, u 60, u 61, u 62, u 63, u 64, u 65, u 66, u 67, u 68, u 69, u 70, u 71, u 72, u 73, u 74, u 75, u 76, u 77, u 78, u 79, u 80, u 81, u 82, u 83, u 84, u 85, u 86, u 87, u 88, u 89, u 90, u 91, u 92, u 93, u 94, u 95, u 96, u 97, u 98, u 99, u 100, u 101, u 102, u 103, u 104, u 105, u 106, u 107, u 108, u 109, u 110, u 111, u 112, u 113, u 114, u 115, u 116, u 117, u 118, u 119, u 120, u 121, u 122, u 123, u 124, u 125, u 126, u 127, u 128, u 129, u 130, u 131, u 132, u 133, u 134, u 135, u 136, u 137, u 138, u 139, u 140, u 141, u 142, u 143, u 144, u 145, u 146, u 147, u 148, u 149, u 150, u 151, u 152, u 153, u 154, u 155, u 156, u 157, u 158, u 159, u 160, u 161, u 162, u 163, u 164, u 165, u 166, u 167, u 168, u 169, u 170, u 171, u 172, u 173, u 174, u 175, u 176, u 177, u 178, u 179, u 180, u 181, u 182, u 183, u 184, u 185, u 186, u 187, u 188, u 189, u 190], defers := [] } wr := by
  obtain rfl : p = s.size := by have := hst.le; omega
  have hans : tokAns (lst s) = .ok ts := by
    have hl := lst_len s
    unfold tokAns; rw [if_neg (by omega)]; exact ans_end hst.res rfl (by omega)
  have HANS := Lib.hid hans
  have HST := Lib.hid hst
  have HEND := Lib.hid hend
  clear hans hst hend
  conv => arg 2; whnf
  go_wp2
  exact HEND.out.mk HANS.out HST.out _ rfl

set_option maxRecDepth 1000000 in
theorem specRound (s : ByteArray) (hs : s.size ≤ 3000) (w : World) (Q0 : Exit → Act → World → Prop) (hret : RetOf s w Q0) (hend : EndAt s w Q0) (a : Act) (wr : World) (hI : SpecI s w a wr) :
    Code.wp Tryd.prog ((Tryd.f8.body.bind firstLoop).getD .skip) (Exit.then (fun a' w'' => SpecI s w a' w'' ∧ specMu s a' < specMu s a) Q0) a wr := by
  obtain ⟨u, hI⟩ := hI
  obtain ⟨p, hI⟩ := hI
  obtain ⟨ts, hI⟩ := hI
  obtain ⟨v6, hI⟩ := hI
  obtain ⟨v7, hI⟩ := hI
  obtain ⟨h7, hI⟩ := hI
  obtain ⟨hst, ha⟩ := hI
  subst h7
  subst ha
  by_cases hlt : p < s.size
  · cases hbk : isBlk s[p] with
    | true => exact specCase_blank s hs w Q0 hret u p ts v6 wr hst hlt hbk
    | false =>
      cases hcm : isCom (lst s) p with
      | true => exact specCase_com s hs w Q0 hret u p ts v6 wr hst hlt hbk hcm
      | false =>
        cases hnm : (isBig s[p] || isSml s[p]) with
        | true => exact specCase_name s hs w Q0 hret u p ts v6 wr hst hlt hbk hcm hnm
        | false =>
          cases hdg : inB 48 57 s[p] with
          | true => exact specCase_num s hs w Q0 hret u p ts v6 wr hst hlt hbk hcm hnm hdg
          | false =>
            by_cases h34 : s[p].toNat = 34
            · exact specCase_sym s hs w Q0 hret u p ts v6 wr hst hlt hbk hcm hnm hdg h34
            · exact specCase_sgn s hs w Q0 hret u p ts v6 wr hst hlt hbk hcm hnm hdg h34
  · exact specCase_end s hs w Q0 hend u p ts v6 wr hst hlt

set_option maxRecDepth 1000000 in
set_option maxHeartbeats 4000000 in
theorem specTokens_small (s : ByteArray) (hs : s.size ≤ 3000) (w : World) :
    Calls Tryd.prog 8 #[.string s] w (SpecPost s w) := by
  have hd : decide ((3000 : Int) < (s.size : Int)) = false := decide_eq_false (by omega)
  have hd' : decide (3000 < s.size) = false := decide_eq_false (by omega)
  go_enter Tryd.func8, Tryd.ntmps8
  go_wp2
  change Code.wp Tryd.prog (Code.loop ((Tryd.f8.body.bind firstLoop).getD .skip)) _ _ _
  refine wp_loop (SpecI s w) (fun a _ => specMu s a) ?_ (fun a w'' hI => specRound s hs w _ ?_ ?_ a w'' hI)
  · have hb : Below w.heap.size w ((w.alloc (.cells #[] 29)).alloc (.cells #[] 29)) := ((Below.refl _ _).alloc (Nat.le_refl _) _).alloc (by simp) _
    exact SpecI_of (p := 0) (ts := []) _ rfl rfl ⟨Nat.zero_le _, Nat.le_refl _, (Res.pre_nil _).symm, by show World.ownsRow _ _ _ _ _ 0 []; have := World.ownsRow_lit (base := w.heap.size) (e := 29) (size := 3) (w.alloc (.cells #[] 29)) #[] 0 (by simp) (by unfold maxLen; omega) rfl; simpa using this, hb⟩
  · intro a' w' p c hans hb hdf h2 h3 h4
    simp only [Exit.inBlock, Exit.then]
    refine bodyPost_ret (results_tmp3 rfl _ _ _) hdf ?_
    rw [h2, h3, h4]
    exact ⟨hb, .inr ⟨p, c, _, hans, rfl⟩⟩
  · intro u w' ts v6 hans R
    have P : SpecPost s w (.returned (.tuple #[v6, .int .i64 0, .int .i64 0])) w' := ⟨R.bel, .inl ⟨ts, v6, hans, rfl, R.own⟩⟩
    clear R hans
    rename_i K hK
    refine hK _ _ ?_
    go_wp2
    go_ret3
    exact P

end Go.Proofs.YtngnmfoephegmaaDoor
