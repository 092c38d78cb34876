/-
  THE WALK over spec.l04Exps: a kind that is none, the end; the loop over the kids of a constructor.
-/
import Derived.Test.YtilijbpbnlnhlaaGreatPX2
namespace Go.Proofs.YtilijbpbnlnhlaaGreat.Pr
open Go Go.RowKit Go.Maps Go.WideMaps


set_option maxRecDepth 1000000 in
set_option maxHeartbeats 4000000 in
theorem exps_none (c : Ctx) (Q0 : Exit → Act → World → Prop) (hret : RetF c Q0) (u : Nat → Value) (i : Nat) (wr : World) (st : ExpSt c i wr) (hi : i < c.u.es.length) (hk : ¬ (1 ≤ c.u.es[i].k ∧ c.u.es[i].k ≤ 7)) :
    Code.wp Tryz.prog expBody (Exit.then (fun a' wx => ExpI c a' wx ∧ expMu c a' < c.u.es.length - i) Q0) { tmps := List.toArray ((c.val) :: (.pointer (some ⟨c.w.heap.size, 0, none⟩)) :: (u 2) :: (u 3) :: (.slice (some ⟨c.w.heap.size + 1, 0, none⟩) c.u.es.length c.u.es.length) :: (.slice (some ⟨c.w.heap.size + 2, 0, none⟩) c.u.es.length c.u.es.length) :: (.int .i64 (i : Int)) :: (u 7) :: (u 8) :: (u 9) :: (u 10) :: (u 11) :: (u 12) :: (u 13) :: (u 14) :: (u 15) :: (u 16) :: (u 17) :: (u 18) :: (u 19) :: (u 20) :: (u 21) :: (u 22) :: (u 23) :: (u 24) :: (u 25) :: (u 26) :: (u 27) :: (u 28) :: (u 29) :: (u 30) :: (u 31) :: (u 32) :: (u 33) :: (u 34) :: (u 35) :: (u 36) :: (u 37) :: (u 38) :: (u 39) :: (u 40) :: (u 41) :: (u 42) :: (u 43) :: (u 44) :: (u 45) :: (u 46) :: (u 47) :: (u 48) :: (u 49) :: (u 50) :: (u 51) :: (u 52) :: (u 53) :: (u 54) :: (u 55) :: (u 56) :: (u 57) :: (u 58) :: (u 59) :: (u 60) :: (u 61) :: (u 62) :: (u 63) :: (u 64) :: (u 65) :: (u 66) :: (u 67) :: (u 68) :: (u 69) :: (u 70) :: (u 71) :: (u 72) :: (u 73) :: (u 74) :: (u 75) :: (u 76) :: (u 77) :: (u 78) :: (u 79) :: (u 80) :: (u 81) :: (u 82) :: (u 83) :: (u 84) :: (u 85) :: (u 86) :: (u 87) :: (u 88) :: (u 89) :: (u 90) :: (u 91) :: (u 92) :: (u 93) :: (u 94) :: (u 95) :: (u 96) :: (u 97) :: (u 98) :: (u 99) :: (u 100) :: (u 101) :: (u 102) :: (u 103) :: (u 104) :: (u 105) :: (u 106) :: (u 107) :: (u 108) :: (u 109) :: (u 110) :: (u 111) :: (u 112) :: (u 113) :: (u 114) :: (u 115) :: (u 116) :: (u 117) :: (u 118) :: (u 119) :: (u 120) :: (u 121) :: (u 122) :: (u 123) :: (u 124) :: (u 125) :: (u 126) :: (u 127) :: (u 128) :: (u 129) :: (u 130) :: (u 131) :: (u 132) :: (u 133) :: (u 134) :: (u 135) :: (u 136) :: (u 137) :: (u 138) :: (u 139) :: (u 140) :: (u 141) :: (u 142) :: (u 143) :: (u 144) :: (u 145) :: (u 146) :: (u 147) :: (u 148) :: (u 149) :: (u 150) :: (u 151) :: (u 152) :: (u 153) :: (u 154) :: (u 155) :: (u 156) :: (u 157) :: (u 158) :: (u 159) :: (u 160) :: (u 161) :: (u 162) :: (u 163) :: (u 164) :: (u 165) :: (u 166) :: (u 167) :: (u 168) :: (u 169) :: (u 170) :: (u 171) :: (u 172) :: (u 173) :: (u 174) :: (u 175) :: (u 176) :: (u 177) :: (u 178) :: (u 179) :: (u 180) :: (u 181) :: (u 182) :: (u 183) :: (u 184) :: (u 185) :: (u 186) :: (u 187) :: (u 188) :: (u 189) :: (u 190) :: (u 191) :: (u 192) :: (u 193) :: (u 194) :: (u 195) :: (u 196) :: (u 197) :: (u 198) :: (u 199) :: (u 200) :: (u 201) :: (u 202) :: (u 203) :: (u 204) :: (u 205) :: (u 206) :: (u 207) :: (u 208) :: (u 209) :: (u 210) :: (u 211) :: (u 212) :: (u 213) :: (u 214) :: (u 215) :: (u 216) :: (u 217) :: (u 218) :: (u 219) :: (u 220) :: (u 221) :: (u 222) :: (u 223) :: []), defers := [] } wr := by
  obtain ⟨b, off, vs, hae, hSb, hvl, hcc, ka, kc, rfl, hI⟩ := RowIn.kept FIt_keeps c.hes st.lies.mem i hi
  obtain ⟨e, he⟩ : ∃ e, c.u.es[i] = e := ⟨_, rfl⟩
  have hxsl := c.xsl hi
  rw [he] at hI hcc hxsl
  have x0 : wr.cell? ⟨b, off + i * 3, none⟩ = some (.int .i64 e.k) := hcc 0 (by simp)
  have x1 : wr.cell? ⟨b, off + i * 3 + 1, none⟩ = some (.string e.s) := hcc 1 (by simp)
  have x2 : wr.cell? ⟨b, off + i * 3 + 2, none⟩ = some (.slice ka e.xs.length kc) := hcc 2 (by simp)
  have p0 : wr.cell? ⟨c.w.heap.size, 0, none⟩ = some (.slice (some ⟨b, off, none⟩) c.u.es.length c.ces) := by
    rw [cell_row st.lies.par (j := 0) (by simp [Ctx.cells])]
    simp [Ctx.cells, hae]
  have hsz := st.lies.size
  have hbw : Below wr.heap.size wr (wr.alloc (.cells #[.int .i64 e.k, .string e.s, .slice ka e.xs.length kc] 49)) := (Below.refl _ _).alloc (Nat.le_refl _) _
  have hK := heap_alloc_new wr (.cells #[.int .i64 e.k, .string e.s, .slice ka e.xs.length kc] 49)
  have hI1 := hI.kept (Same.below (fun q hq => Nat.lt_of_lt_of_le (c.hS q hq) st.lies.below.size) hbw)
  have hL1 := st.lies.go hbw
  have hrl : (refs (c.u.es.take i)).length ≤ 1048576 := refs_len _ (by have := wsum_take_le It.wt c.u.es i; have := c.esw; omega)
  have hnn := c.few
  obtain ⟨w', hw'⟩ : ∃ w', wr.alloc (.cells #[.int .i64 e.k, .string e.s, .slice ka e.xs.length kc] 49) = w' := ⟨_, rfl⟩
  have hsz' : w'.heap.size = wr.heap.size + 1 := by rw [← hw']; simp
  rw [hw'] at hbw hK hI1 hL1
  have HW := Lib.hid hw'
  have HK := Lib.hid hK
  have HI1 := Lib.hid hI1
  have HL1 := Lib.hid hL1
  have HRET := Lib.hid hret
  have HST := Lib.hid st
  have HCC := Lib.hid hcc
  have HHE := Lib.hid he
  have HHAE := Lib.hid hae
  clear hcc hI hbw hK hI1 hL1 hret st hvl hSb hw' he hae
  unfold expBody
  conv => arg 2; whnf
  go_wp2
  rw [HW.out]
  change Code.wp Tryz.prog (Code.loop kidBody) _ _ _
  refine kid_loop_at _ c i wr.heap.size hi hsz e ka kc HHE.out (refs (c.u.es.take i)) hrl w' HK.out HI1.out (by omega) _ ?_ ?_ HL1.out.below HL1.out.used rfl
  · intro a w1 hng hb hd h3
    exact HRET.out a w1 hng hb hd h3
  · intro u' w'' hks
    have hL2 : Lies c (cnts c.u.es.length (refs (c.u.es.take i) ++ e.xs)) (txts c.u.es i ++ List.replicate (c.u.es.length - i) (⟨#[]⟩ : BA)) w'' := HL1.out.bump hks.but (by rw [hks.used, List.take_length])
    have hkid : ∀ x ∈ c.u.es[i].xs, 0 ≤ x ∧ x < (i : Int) := by rw [HHE.out]; intro x hx; exact hks.ok x (by rw [List.take_length]; exact hx)
    have kE := (hks.but.other wr.heap.size (by omega)).trans HK.out
    have hI2 := HI1.out.kept (hks.but.same (fun h => by have := c.hS _ h; omega))
    have hsz2 := hks.but.size
    have HKID := Lib.hid hkid
    have HL2 := Lib.hid hL2
    have HI2 := Lib.hid hI2
    have d0 := cell_of_row _ wr.heap.size 0 _ _ _ kE
    have d1 := cell_of_row _ wr.heap.size 1 _ _ _ kE
    have d2 := cell_of_row _ wr.heap.size 2 _ _ _ kE
    simp only [List.getElem?_toArray, List.getElem?_cons_zero, List.getElem?_cons_succ] at d0 d1 d2
    have ho : w''.cell? ⟨c.w.heap.size + 2, i, none⟩ = some (.string ⟨#[]⟩) := by
      have hlen : i < (txtCells (txts c.u.es i ++ List.replicate (c.u.es.length - i) (⟨#[]⟩ : BA))).length := by simp [txtCells, txts_length]; omega
      rw [cell_row hL2.outs hlen]
      simp [txtCells, List.getElem_append_right, txts_length]
    have hfo : w''.frozen? ⟨c.w.heap.size + 2, i, none⟩ = false := by simp [World.frozen?, hL2.outs]
    have hfin : ∀ s : BA, s = expTxt c.u.es (txts c.u.es i) c.u.es[i] → kindOk c.u.es[i] = true → s.size ≤ 3000 → ExpSt c (i + 1) (w''.setCell ⟨c.w.heap.size + 2, i, none⟩ (.string s)) := by
      intro s hs hk h3
      subst hs
      refine HST.out.next hi HKID.out hk h3 ?_
      have hbt := But.set (c.w.heap.size + 2) i w'' (.string (expTxt c.u.es (txts c.u.es i) c.u.es[i]))
      rw [HHE.out] at hbt ⊢
      exact ⟨(hbt.other _ (by omega)).trans HL2.out.par, (hbt.other _ (by omega)).trans HL2.out.used, by rw [set_row HL2.out.outs, txtCells_set], hbt.below HL2.out.below (by omega)⟩
    have HFIN := Lib.hid hfin
    have hrt : ∀ a : Act, ¬ c.good → a.defers = [] → a.tmps.getD 3 undef = .bool false → Q0 .ret a w'' := fun a hng h1 h2 => HRET.out a w'' hng HL2.out.below h1 h2
    have HRT := Lib.hid hrt
    clear hL2 hkid kE hI2 hfin hrt hks
    rename_i K hKK
    refine hKK _ _ ?_
    have hek : ¬ (1 ≤ e.k ∧ e.k ≤ 7) := by rw [← HHE.out]; exact hk
    have hng : ¬ c.good := fun g => by
      have := g.1.kind c.u.es[i] (List.getElem_mem hi)
      rw [HHE.out] at this
      simp [kindOk, isSum] at this
      omega
    have q1 : (e.k == 1) = false := by simp; omega
    have q2 : (e.k == 2) = false := by simp; omega
    have q3 : (e.k == 3) = false := by simp; omega
    have q4 : (e.k == 4) = false := by simp; omega
    have q5 : (e.k == 5) = false := by simp; omega
    have q6 : (e.k == 6) = false := by simp; omega
    have q7 : (e.k == 7) = false := by simp; omega
    have HN := Lib.hid (fun a => HRT.out a hng)
    clear HFIN HRT hng hek hk
    go_wp2
    exact HN.out _ rfl rfl


set_option maxRecDepth 1000000 in
set_option maxHeartbeats 4000000 in
theorem exps_end (c : Ctx) (Q0 : Exit → Act → World → Prop) (hend : ExpEnd c Q0) (u : Nat → Value) (i : Nat) (wr : World) (st : ExpSt c i wr) (hi : ¬ i < c.u.es.length) :
    Code.wp Tryz.prog expBody (Exit.then (fun a' wx => ExpI c a' wx ∧ expMu c a' < c.u.es.length - i) Q0) { tmps := List.toArray ((c.val) :: (.pointer (some ⟨c.w.heap.size, 0, none⟩)) :: (u 2) :: (u 3) :: (.slice (some ⟨c.w.heap.size + 1, 0, none⟩) c.u.es.length c.u.es.length) :: (.slice (some ⟨c.w.heap.size + 2, 0, none⟩) c.u.es.length c.u.es.length) :: (.int .i64 (i : Int)) :: (u 7) :: (u 8) :: (u 9) :: (u 10) :: (u 11) :: (u 12) :: (u 13) :: (u 14) :: (u 15) :: (u 16) :: (u 17) :: (u 18) :: (u 19) :: (u 20) :: (u 21) :: (u 22) :: (u 23) :: (u 24) :: (u 25) :: (u 26) :: (u 27) :: (u 28) :: (u 29) :: (u 30) :: (u 31) :: (u 32) :: (u 33) :: (u 34) :: (u 35) :: (u 36) :: (u 37) :: (u 38) :: (u 39) :: (u 40) :: (u 41) :: (u 42) :: (u 43) :: (u 44) :: (u 45) :: (u 46) :: (u 47) :: (u 48) :: (u 49) :: (u 50) :: (u 51) :: (u 52) :: (u 53) :: (u 54) :: (u 55) :: (u 56) :: (u 57) :: (u 58) :: (u 59) :: (u 60) :: (u 61) :: (u 62) :: (u 63) :: (u 64) :: (u 65) :: (u 66) :: (u 67) :: (u 68) :: (u 69) :: (u 70) :: (u 71) :: (u 72) :: (u 73) :: (u 74) :: (u 75) :: (u 76) :: (u 77) :: (u 78) :: (u 79) :: (u 80) :: (u 81) :: (u 82) :: (u 83) :: (u 84) :: (u 85) :: (u 86) :: (u 87) :: (u 88) :: (u 89) :: (u 90) :: (u 91) :: (u 92) :: (u 93) :: (u 94) :: (u 95) :: (u 96) :: (u 97) :: (u 98) :: (u 99) :: (u 100) :: (u 101) :: (u 102) :: (u 103) :: (u 104) :: (u 105) :: (u 106) :: (u 107) :: (u 108) :: (u 109) :: (u 110) :: (u 111) :: (u 112) :: (u 113) :: (u 114) :: (u 115) :: (u 116) :: (u 117) :: (u 118) :: (u 119) :: (u 120) :: (u 121) :: (u 122) :: (u 123) :: (u 124) :: (u 125) :: (u 126) :: (u 127) :: (u 128) :: (u 129) :: (u 130) :: (u 131) :: (u 132) :: (u 133) :: (u 134) :: (u 135) :: (u 136) :: (u 137) :: (u 138) :: (u 139) :: (u 140) :: (u 141) :: (u 142) :: (u 143) :: (u 144) :: (u 145) :: (u 146) :: (u 147) :: (u 148) :: (u 149) :: (u 150) :: (u 151) :: (u 152) :: (u 153) :: (u 154) :: (u 155) :: (u 156) :: (u 157) :: (u 158) :: (u 159) :: (u 160) :: (u 161) :: (u 162) :: (u 163) :: (u 164) :: (u 165) :: (u 166) :: (u 167) :: (u 168) :: (u 169) :: (u 170) :: (u 171) :: (u 172) :: (u 173) :: (u 174) :: (u 175) :: (u 176) :: (u 177) :: (u 178) :: (u 179) :: (u 180) :: (u 181) :: (u 182) :: (u 183) :: (u 184) :: (u 185) :: (u 186) :: (u 187) :: (u 188) :: (u 189) :: (u 190) :: (u 191) :: (u 192) :: (u 193) :: (u 194) :: (u 195) :: (u 196) :: (u 197) :: (u 198) :: (u 199) :: (u 200) :: (u 201) :: (u 202) :: (u 203) :: (u 204) :: (u 205) :: (u 206) :: (u 207) :: (u 208) :: (u 209) :: (u 210) :: (u 211) :: (u 212) :: (u 213) :: (u 214) :: (u 215) :: (u 216) :: (u 217) :: (u 218) :: (u 219) :: (u 220) :: (u 221) :: (u 222) :: (u 223) :: []), defers := [] } wr := by
  obtain rfl : i = c.u.es.length := by have := st.le; omega
  have p0 : wr.cell? ⟨c.w.heap.size, 0, none⟩ = some (.slice c.aes c.u.es.length c.ces) := by
    rw [cell_row st.lies.par (j := 0) (by simp [Ctx.cells])]
    simp [Ctx.cells]
  have hnn := c.few
  have HE := Lib.hid hend
  have HST := Lib.hid st
  clear st hend
  unfold expBody
  conv => arg 2; whnf
  go_wp2
  refine HE.out.mk HST.out _ ?_
  rfl

set_option maxRecDepth 1000000 in
def ConI (c : Ctx) (i ge : Nat) (e : It) (w' : World) (a : Act) (w'' : World) : Prop :=
  ∃ (u : Nat → Value) (k : Nat) (v9 v10 : Value), v10 = .int .i64 (k : Int) ∧ v9 = .string (listTxt fCon (txts c.u.es i) e.s (e.xs.take k)).1 ∧ k ≤ e.xs.length ∧ w'' = w' ∧ a = { tmps := List.toArray ((c.val) :: (.pointer (some ⟨c.w.heap.size, 0, none⟩)) :: (u 2) :: (u 3) :: (.slice (some ⟨c.w.heap.size + 1, 0, none⟩) c.u.es.length c.u.es.length) :: (.slice (some ⟨c.w.heap.size + 2, 0, none⟩) c.u.es.length c.u.es.length) :: (.int .i64 (i : Int)) :: (.pointer (some ⟨ge, 0, none⟩)) :: (u 8) :: (v9) :: (v10) :: (u 11) :: (u 12) :: (u 13) :: (u 14) :: (u 15) :: (u 16) :: (u 17) :: (u 18) :: (u 19) :: (u 20) :: (u 21) :: (u 22) :: (u 23) :: (u 24) :: (u 25) :: (u 26) :: (u 27) :: (u 28) :: (u 29) :: (u 30) :: (u 31) :: (u 32) :: (u 33) :: (u 34) :: (u 35) :: (u 36) :: (u 37) :: (u 38) :: (u 39) :: (u 40) :: (u 41) :: (u 42) :: (u 43) :: (u 44) :: (u 45) :: (u 46) :: (u 47) :: (u 48) :: (u 49) :: (u 50) :: (u 51) :: (u 52) :: (u 53) :: (u 54) :: (u 55) :: (u 56) :: (u 57) :: (u 58) :: (u 59) :: (u 60) :: (u 61) :: (u 62) :: (u 63) :: (u 64) :: (u 65) :: (u 66) :: (u 67) :: (u 68) :: (u 69) :: (u 70) :: (u 71) :: (u 72) :: (u 73) :: (u 74) :: (u 75) :: (u 76) :: (u 77) :: (u 78) :: (u 79) :: (u 80) :: (u 81) :: (u 82) :: (u 83) :: (u 84) :: (u 85) :: (u 86) :: (u 87) :: (u 88) :: (u 89) :: (u 90) :: (u 91) :: (u 92) :: (u 93) :: (u 94) :: (u 95) :: (u 96) :: (u 97) :: (u 98) :: (u 99) :: (u 100) :: (u 101) :: (u 102) :: (u 103) :: (u 104) :: (u 105) :: (u 106) :: (u 107) :: (u 108) :: (u 109) :: (u 110) :: (u 111) :: (u 112) :: (u 113) :: (u 114) :: (u 115) :: (u 116) :: (u 117) :: (u 118) :: (u 119) :: (u 120) :: (u 121) :: (u 122) :: (u 123) :: (u 124) :: (u 125) :: (u 126) :: (u 127) :: (u 128) :: (u 129) :: (u 130) :: (u 131) :: (u 132) :: (u 133) :: (u 134) :: (u 135) :: (u 136) :: (u 137) :: (u 138) :: (u 139) :: (u 140) :: (u 141) :: (u 142) :: (u 143) :: (u 144) :: (u 145) :: (u 146) :: (u 147) :: (u 148) :: (u 149) :: (u 150) :: (u 151) :: (u 152) :: (u 153) :: (u 154) :: (u 155) :: (u 156) :: (u 157) :: (u 158) :: (u 159) :: (u 160) :: (u 161) :: (u 162) :: (u 163) :: (u 164) :: (u 165) :: (u 166) :: (u 167) :: (u 168) :: (u 169) :: (u 170) :: (u 171) :: (u 172) :: (u 173) :: (u 174) :: (u 175) :: (u 176) :: (u 177) :: (u 178) :: (u 179) :: (u 180) :: (u 181) :: (u 182) :: (u 183) :: (u 184) :: (u 185) :: (u 186) :: (u 187) :: (u 188) :: (u 189) :: (u 190) :: (u 191) :: (u 192) :: (u 193) :: (u 194) :: (u 195) :: (u 196) :: (u 197) :: (u 198) :: (u 199) :: (u 200) :: (u 201) :: (u 202) :: (u 203) :: (u 204) :: (u 205) :: (u 206) :: (u 207) :: (u 208) :: (u 209) :: (u 210) :: (u 211) :: (u 212) :: (u 213) :: (u 214) :: (u 215) :: (u 216) :: (u 217) :: (u 218) :: (u 219) :: (u 220) :: (u 221) :: (u 222) :: (u 223) :: []), defers := [] }
def conMu (e : It) (a : Act) : Nat := e.xs.length - (intOf (a.tmps.getD 10 undef)).toNat
set_option maxRecDepth 1000000 in
theorem ConI_of {c : Ctx} {i ge : Nat} {e : It} {w' w'' : World} {k : Nat} {v9 v10 : Value} (arr : Array Value) (h : ({ tmps := arr, defers := [] } : Act) = { tmps := List.toArray ((c.val) :: (.pointer (some ⟨c.w.heap.size, 0, none⟩)) :: (arr.getD 2 undef) :: (arr.getD 3 undef) :: (.slice (some ⟨c.w.heap.size + 1, 0, none⟩) c.u.es.length c.u.es.length) :: (.slice (some ⟨c.w.heap.size + 2, 0, none⟩) c.u.es.length c.u.es.length) :: (.int .i64 (i : Int)) :: (.pointer (some ⟨ge, 0, none⟩)) :: (arr.getD 8 undef) :: (v9) :: (v10) :: (arr.getD 11 undef) :: (arr.getD 12 undef) :: (arr.getD 13 undef) :: (arr.getD 14 undef) :: (arr.getD 15 undef) :: (arr.getD 16 undef) :: (arr.getD 17 undef) :: (arr.getD 18 undef) :: (arr.getD 19 undef) :: (arr.getD 20 undef) :: (arr.getD 21 undef) :: (arr.getD 22 undef) :: (arr.getD 23 undef) :: (arr.getD 24 undef) :: (arr.getD 25 undef) :: (arr.getD 26 undef) :: (arr.getD 27 undef) :: (arr.getD 28 undef) :: (arr.getD 29 undef) :: (arr.getD 30 undef) :: (arr.getD 31 undef) :: (arr.getD 32 undef) :: (arr.getD 33 undef) :: (arr.getD 34 undef) :: (arr.getD 35 undef) :: (arr.getD 36 undef) :: (arr.getD 37 undef) :: (arr.getD 38 undef) :: (arr.getD 39 undef) :: (arr.getD 40 undef) :: (arr.getD 41 undef) :: (arr.getD 42 undef) :: (arr.getD 43 undef) :: (arr.getD 44 undef) :: (arr.getD 45 undef) :: (arr.getD 46 undef) :: (arr.getD 47 undef) :: (arr.getD 48 undef) :: (arr.getD 49 undef) :: (arr.getD 50 undef) :: (arr.getD 51 undef) :: (arr.getD 52 undef) :: (arr.getD 53 undef) :: (arr.getD 54 undef) :: (arr.getD 55 undef) :: (arr.getD 56 undef) :: (arr.getD 57 undef) :: (arr.getD 58 undef) :: (arr.getD 59 undef) :: (arr.getD 60 undef) :: (arr.getD 61 undef) :: (arr.getD 62 undef) :: (arr.getD 63 undef) :: (arr.getD 64 undef) :: (arr.getD 65 undef) :: (arr.getD 66 undef) :: (arr.getD 67 undef) :: (arr.getD 68 undef) :: (arr.getD 69 undef) :: (arr.getD 70 undef) :: (arr.getD 71 undef) :: (arr.getD 72 undef) :: (arr.getD 73 undef) :: (arr.getD 74 undef) :: (arr.getD 75 undef) :: (arr.getD 76 undef) :: (arr.getD 77 undef) :: (arr.getD 78 undef) :: (arr.getD 79 undef) :: (arr.getD 80 undef) :: (arr.getD 81 undef) :: (arr.getD 82 undef) :: (arr.getD 83 undef) :: (arr.getD 84 undef) :: (arr.getD 85 undef) :: (arr.getD 86 undef) :: (arr.getD 87 undef) :: (arr.getD 88 undef) :: (arr.getD 89 undef) :: (arr.getD 90 undef) :: (arr.getD 91 undef) :: (arr.getD 92 undef) :: (arr.getD 93 undef) :: (arr.getD 94 undef) :: (arr.getD 95 undef) :: (arr.getD 96 undef) :: (arr.getD 97 undef) :: (arr.getD 98 undef) :: (arr.getD 99 undef) :: (arr.getD 100 undef) :: (arr.getD 101 undef) :: (arr.getD 102 undef) :: (arr.getD 103 undef) :: (arr.getD 104 undef) :: (arr.getD 105 undef) :: (arr.getD 106 undef) :: (arr.getD 107 undef) :: (arr.getD 108 undef) :: (arr.getD 109 undef) :: (arr.getD 110 undef) :: (arr.getD 111 undef) :: (arr.getD 112 undef) :: (arr.getD 113 undef) :: (arr.getD 114 undef) :: (arr.getD 115 undef) :: (arr.getD 116 undef) :: (arr.getD 117 undef) :: (arr.getD 118 undef) :: (arr.getD 119 undef) :: (arr.getD 120 undef) :: (arr.getD 121 undef) :: (arr.getD 122 undef) :: (arr.getD 123 undef) :: (arr.getD 124 undef) :: (arr.getD 125 undef) :: (arr.getD 126 undef) :: (arr.getD 127 undef) :: (arr.getD 128 undef) :: (arr.getD 129 undef) :: (arr.getD 130 undef) :: (arr.getD 131 undef) :: (arr.getD 132 undef) :: (arr.getD 133 undef) :: (arr.getD 134 undef) :: (arr.getD 135 undef) :: (arr.getD 136 undef) :: (arr.getD 137 undef) :: (arr.getD 138 undef) :: (arr.getD 139 undef) :: (arr.getD 140 undef) :: (arr.getD 141 undef) :: (arr.getD 142 undef) :: (arr.getD 143 undef) :: (arr.getD 144 undef) :: (arr.getD 145 undef) :: (arr.getD 146 undef) :: (arr.getD 147 undef) :: (arr.getD 148 undef) :: (arr.getD 149 undef) :: (arr.getD 150 undef) :: (arr.getD 151 undef) :: (arr.getD 152 undef) :: (arr.getD 153 undef) :: (arr.getD 154 undef) :: (arr.getD 155 undef) :: (arr.getD 156 undef) :: (arr.getD 157 undef) :: (arr.getD 158 undef) :: (arr.getD 159 undef) :: (arr.getD 160 undef) :: (arr.getD 161 undef) :: (arr.getD 162 undef) :: (arr.getD 163 undef) :: (arr.getD 164 undef) :: (arr.getD 165 undef) :: (arr.getD 166 undef) :: (arr.getD 167 undef) :: (arr.getD 168 undef) :: (arr.getD 169 undef) :: (arr.getD 170 undef) :: (arr.getD 171 undef) :: (arr.getD 172 undef) :: (arr.getD 173 undef) :: (arr.getD 174 undef) :: (arr.getD 175 undef) :: (arr.getD 176 undef) :: (arr.getD 177 undef) :: (arr.getD 178 undef) :: (arr.getD 179 undef) :: (arr.getD 180 undef) :: (arr.getD 181 undef) :: (arr.getD 182 undef) :: (arr.getD 183 undef) :: (arr.getD 184 undef) :: (arr.getD 185 undef) :: (arr.getD 186 undef) :: (arr.getD 187 undef) :: (arr.getD 188 undef) :: (arr.getD 189 undef) :: (arr.getD 190 undef) :: (arr.getD 191 undef) :: (arr.getD 192 undef) :: (arr.getD 193 undef) :: (arr.getD 194 undef) :: (arr.getD 195 undef) :: (arr.getD 196 undef) :: (arr.getD 197 undef) :: (arr.getD 198 undef) :: (arr.getD 199 undef) :: (arr.getD 200 undef) :: (arr.getD 201 undef) :: (arr.getD 202 undef) :: (arr.getD 203 undef) :: (arr.getD 204 undef) :: (arr.getD 205 undef) :: (arr.getD 206 undef) :: (arr.getD 207 undef) :: (arr.getD 208 undef) :: (arr.getD 209 undef) :: (arr.getD 210 undef) :: (arr.getD 211 undef) :: (arr.getD 212 undef) :: (arr.getD 213 undef) :: (arr.getD 214 undef) :: (arr.getD 215 undef) :: (arr.getD 216 undef) :: (arr.getD 217 undef) :: (arr.getD 218 undef) :: (arr.getD 219 undef) :: (arr.getD 220 undef) :: (arr.getD 221 undef) :: (arr.getD 222 undef) :: (arr.getD 223 undef) :: []), defers := [] }) (hv : v10 = .int .i64 (k : Int)) (h9 : v9 = .string (listTxt fCon (txts c.u.es i) e.s (e.xs.take k)).1) (hk : k ≤ e.xs.length) (hw : w'' = w') : ConI c i ge e w' { tmps := arr, defers := [] } w'' :=
  ⟨fun i => arr.getD i undef, k, v9, v10, hv, h9, hk, hw, h⟩
set_option maxRecDepth 1000000 in
def ConEnd (c : Ctx) (i ge : Nat) (e : It) (w' : World) (Q : Exit → Act → World → Prop) : Prop :=
  ∀ (u : Nat → Value), Q (.exit 5) { tmps := List.toArray ((c.val) :: (.pointer (some ⟨c.w.heap.size, 0, none⟩)) :: (u 2) :: (u 3) :: (.slice (some ⟨c.w.heap.size + 1, 0, none⟩) c.u.es.length c.u.es.length) :: (.slice (some ⟨c.w.heap.size + 2, 0, none⟩) c.u.es.length c.u.es.length) :: (.int .i64 (i : Int)) :: (.pointer (some ⟨ge, 0, none⟩)) :: (u 8) :: (.string (listTxt fCon (txts c.u.es i) e.s e.xs).1) :: (u 10) :: (u 11) :: (u 12) :: (u 13) :: (u 14) :: (u 15) :: (u 16) :: (u 17) :: (u 18) :: (u 19) :: (u 20) :: (u 21) :: (u 22) :: (u 23) :: (u 24) :: (u 25) :: (u 26) :: (u 27) :: (u 28) :: (u 29) :: (u 30) :: (u 31) :: (u 32) :: (u 33) :: (u 34) :: (u 35) :: (u 36) :: (u 37) :: (u 38) :: (u 39) :: (u 40) :: (u 41) :: (u 42) :: (u 43) :: (u 44) :: (u 45) :: (u 46) :: (u 47) :: (u 48) :: (u 49) :: (u 50) :: (u 51) :: (u 52) :: (u 53) :: (u 54) :: (u 55) :: (u 56) :: (u 57) :: (u 58) :: (u 59) :: (u 60) :: (u 61) :: (u 62) :: (u 63) :: (u 64) :: (u 65) :: (u 66) :: (u 67) :: (u 68) :: (u 69) :: (u 70) :: (u 71) :: (u 72) :: (u 73) :: (u 74) :: (u 75) :: (u 76) :: (u 77) :: (u 78) :: (u 79) :: (u 80) :: (u 81) :: (u 82) :: (u 83) :: (u 84) :: (u 85) :: (u 86) :: (u 87) :: (u 88) :: (u 89) :: (u 90) :: (u 91) :: (u 92) :: (u 93) :: (u 94) :: (u 95) :: (u 96) :: (u 97) :: (u 98) :: (u 99) :: (u 100) :: (u 101) :: (u 102) :: (u 103) :: (u 104) :: (u 105) :: (u 106) :: (u 107) :: (u 108) :: (u 109) :: (u 110) :: (u 111) :: (u 112) :: (u 113) :: (u 114) :: (u 115) :: (u 116) :: (u 117) :: (u 118) :: (u 119) :: (u 120) :: (u 121) :: (u 122) :: (u 123) :: (u 124) :: (u 125) :: (u 126) :: (u 127) :: (u 128) :: (u 129) :: (u 130) :: (u 131) :: (u 132) :: (u 133) :: (u 134) :: (u 135) :: (u 136) :: (u 137) :: (u 138) :: (u 139) :: (u 140) :: (u 141) :: (u 142) :: (u 143) :: (u 144) :: (u 145) :: (u 146) :: (u 147) :: (u 148) :: (u 149) :: (u 150) :: (u 151) :: (u 152) :: (u 153) :: (u 154) :: (u 155) :: (u 156) :: (u 157) :: (u 158) :: (u 159) :: (u 160) :: (u 161) :: (u 162) :: (u 163) :: (u 164) :: (u 165) :: (u 166) :: (u 167) :: (u 168) :: (u 169) :: (u 170) :: (u 171) :: (u 172) :: (u 173) :: (u 174) :: (u 175) :: (u 176) :: (u 177) :: (u 178) :: (u 179) :: (u 180) :: (u 181) :: (u 182) :: (u 183) :: (u 184) :: (u 185) :: (u 186) :: (u 187) :: (u 188) :: (u 189) :: (u 190) :: (u 191) :: (u 192) :: (u 193) :: (u 194) :: (u 195) :: (u 196) :: (u 197) :: (u 198) :: (u 199) :: (u 200) :: (u 201) :: (u 202) :: (u 203) :: (u 204) :: (u 205) :: (u 206) :: (u 207) :: (u 208) :: (u 209) :: (u 210) :: (u 211) :: (u 212) :: (u 213) :: (u 214) :: (u 215) :: (u 216) :: (u 217) :: (u 218) :: (u 219) :: (u 220) :: (u 221) :: (u 222) :: (u 223) :: []), defers := [] } w'
set_option maxRecDepth 1000000 in
theorem ConEnd.mk {c : Ctx} {i ge : Nat} {e : It} {w' : World} {Q : Exit → Act → World → Prop} (h : ConEnd c i ge e w' Q) (arr : Array Value) (ha : ({ tmps := arr, defers := [] } : Act) = { tmps := List.toArray ((c.val) :: (.pointer (some ⟨c.w.heap.size, 0, none⟩)) :: (arr.getD 2 undef) :: (arr.getD 3 undef) :: (.slice (some ⟨c.w.heap.size + 1, 0, none⟩) c.u.es.length c.u.es.length) :: (.slice (some ⟨c.w.heap.size + 2, 0, none⟩) c.u.es.length c.u.es.length) :: (.int .i64 (i : Int)) :: (.pointer (some ⟨ge, 0, none⟩)) :: (arr.getD 8 undef) :: (.string (listTxt fCon (txts c.u.es i) e.s e.xs).1) :: (arr.getD 10 undef) :: (arr.getD 11 undef) :: (arr.getD 12 undef) :: (arr.getD 13 undef) :: (arr.getD 14 undef) :: (arr.getD 15 undef) :: (arr.getD 16 undef) :: (arr.getD 17 undef) :: (arr.getD 18 undef) :: (arr.getD 19 undef) :: (arr.getD 20 undef) :: (arr.getD 21 undef) :: (arr.getD 22 undef) :: (arr.getD 23 undef) :: (arr.getD 24 undef) :: (arr.getD 25 undef) :: (arr.getD 26 undef) :: (arr.getD 27 undef) :: (arr.getD 28 undef) :: (arr.getD 29 undef) :: (arr.getD 30 undef) :: (arr.getD 31 undef) :: (arr.getD 32 undef) :: (arr.getD 33 undef) :: (arr.getD 34 undef) :: (arr.getD 35 undef) :: (arr.getD 36 undef) :: (arr.getD 37 undef) :: (arr.getD 38 undef) :: (arr.getD 39 undef) :: (arr.getD 40 undef) :: (arr.getD 41 undef) :: (arr.getD 42 undef) :: (arr.getD 43 undef) :: (arr.getD 44 undef) :: (arr.getD 45 undef) :: (arr.getD 46 undef) :: (arr.getD 47 undef) :: (arr.getD 48 undef) :: (arr.getD 49 undef) :: (arr.getD 50 undef) :: (arr.getD 51 undef) :: (arr.getD 52 undef) :: (arr.getD 53 undef) :: (arr.getD 54 undef) :: (arr.getD 55 undef) :: (arr.getD 56 undef) :: (arr.getD 57 undef) :: (arr.getD 58 undef) :: (arr.getD 59 undef) :: (arr.getD 60 undef) :: (arr.getD 61 undef) :: (arr.getD 62 undef) :: (arr.getD 63 undef) :: (arr.getD 64 undef) :: (arr.getD 65 undef) :: (arr.getD 66 undef) :: (arr.getD 67 undef) :: (arr.getD 68 undef) :: (arr.getD 69 undef) :: (arr.getD 70 undef) :: (arr.getD 71 undef) :: (arr.getD 72 undef) :: (arr.getD 73 undef) :: (arr.getD 74 undef) :: (arr.getD 75 undef) :: (arr.getD 76 undef) :: (arr.getD 77 undef) :: (arr.getD 78 undef) :: (arr.getD 79 undef) :: (arr.getD 80 undef) :: (arr.getD 81 undef) :: (arr.getD 82 undef) :: (arr.getD 83 undef) :: (arr.getD 84 undef) :: (arr.getD 85 undef) :: (arr.getD 86 undef) :: (arr.getD 87 undef) :: (arr.getD 88 undef) :: (arr.getD 89 undef) :: (arr.getD 90 undef) :: (arr.getD 91 undef) :: (arr.getD 92 undef) :: (arr.getD 93 undef) :: (arr.getD 94 undef) :: (arr.getD 95 undef) :: (arr.getD 96 undef) :: (arr.getD 97 undef) :: (arr.getD 98 undef) :: (arr.getD 99 undef) :: (arr.getD 100 undef) :: (arr.getD 101 undef) :: (arr.getD 102 undef) :: (arr.getD 103 undef) :: (arr.getD 104 undef) :: (arr.getD 105 undef) :: (arr.getD 106 undef) :: (arr.getD 107 undef) :: (arr.getD 108 undef) :: (arr.getD 109 undef) :: (arr.getD 110 undef) :: (arr.getD 111 undef) :: (arr.getD 112 undef) :: (arr.getD 113 undef) :: (arr.getD 114 undef) :: (arr.getD 115 undef) :: (arr.getD 116 undef) :: (arr.getD 117 undef) :: (arr.getD 118 undef) :: (arr.getD 119 undef) :: (arr.getD 120 undef) :: (arr.getD 121 undef) :: (arr.getD 122 undef) :: (arr.getD 123 undef) :: (arr.getD 124 undef) :: (arr.getD 125 undef) :: (arr.getD 126 undef) :: (arr.getD 127 undef) :: (arr.getD 128 undef) :: (arr.getD 129 undef) :: (arr.getD 130 undef) :: (arr.getD 131 undef) :: (arr.getD 132 undef) :: (arr.getD 133 undef) :: (arr.getD 134 undef) :: (arr.getD 135 undef) :: (arr.getD 136 undef) :: (arr.getD 137 undef) :: (arr.getD 138 undef) :: (arr.getD 139 undef) :: (arr.getD 140 undef) :: (arr.getD 141 undef) :: (arr.getD 142 undef) :: (arr.getD 143 undef) :: (arr.getD 144 undef) :: (arr.getD 145 undef) :: (arr.getD 146 undef) :: (arr.getD 147 undef) :: (arr.getD 148 undef) :: (arr.getD 149 undef) :: (arr.getD 150 undef) :: (arr.getD 151 undef) :: (arr.getD 152 undef) :: (arr.getD 153 undef) :: (arr.getD 154 undef) :: (arr.getD 155 undef) :: (arr.getD 156 undef) :: (arr.getD 157 undef) :: (arr.getD 158 undef) :: (arr.getD 159 undef) :: (arr.getD 160 undef) :: (arr.getD 161 undef) :: (arr.getD 162 undef) :: (arr.getD 163 undef) :: (arr.getD 164 undef) :: (arr.getD 165 undef) :: (arr.getD 166 undef) :: (arr.getD 167 undef) :: (arr.getD 168 undef) :: (arr.getD 169 undef) :: (arr.getD 170 undef) :: (arr.getD 171 undef) :: (arr.getD 172 undef) :: (arr.getD 173 undef) :: (arr.getD 174 undef) :: (arr.getD 175 undef) :: (arr.getD 176 undef) :: (arr.getD 177 undef) :: (arr.getD 178 undef) :: (arr.getD 179 undef) :: (arr.getD 180 undef) :: (arr.getD 181 undef) :: (arr.getD 182 undef) :: (arr.getD 183 undef) :: (arr.getD 184 undef) :: (arr.getD 185 undef) :: (arr.getD 186 undef) :: (arr.getD 187 undef) :: (arr.getD 188 undef) :: (arr.getD 189 undef) :: (arr.getD 190 undef) :: (arr.getD 191 undef) :: (arr.getD 192 undef) :: (arr.getD 193 undef) :: (arr.getD 194 undef) :: (arr.getD 195 undef) :: (arr.getD 196 undef) :: (arr.getD 197 undef) :: (arr.getD 198 undef) :: (arr.getD 199 undef) :: (arr.getD 200 undef) :: (arr.getD 201 undef) :: (arr.getD 202 undef) :: (arr.getD 203 undef) :: (arr.getD 204 undef) :: (arr.getD 205 undef) :: (arr.getD 206 undef) :: (arr.getD 207 undef) :: (arr.getD 208 undef) :: (arr.getD 209 undef) :: (arr.getD 210 undef) :: (arr.getD 211 undef) :: (arr.getD 212 undef) :: (arr.getD 213 undef) :: (arr.getD 214 undef) :: (arr.getD 215 undef) :: (arr.getD 216 undef) :: (arr.getD 217 undef) :: (arr.getD 218 undef) :: (arr.getD 219 undef) :: (arr.getD 220 undef) :: (arr.getD 221 undef) :: (arr.getD 222 undef) :: (arr.getD 223 undef) :: []), defers := [] }) : Q (.exit 5) { tmps := arr, defers := [] } w' := by
  rw [ha]
  exact h (fun i => arr.getD i undef)
noncomputable def conBody : Code := ((Tryz.f46.body.map loopsOf).getD []).getD 2 .skip

set_option maxRecDepth 1000000 in
set_option maxHeartbeats 4000000 in
theorem con_step (c : Ctx) (i ge : Nat) (hi : i < c.u.es.length) (e : It) (ka : Option Addr) (kc : Nat) (cn : List Int) (w' : World) (st : Lies c cn (txts c.u.es i ++ List.replicate (c.u.es.length - i) (⟨#[]⟩ : BA)) w') (hK : w'.heap[ge]? = some (.cells #[.int .i64 e.k, .string e.s, .slice ka e.xs.length kc] 49 (0, 0))) (hI : IntsIn c.S w' ka e.xs) (hl : e.s.size + e.xs.length ≤ 1048576) (hkid : ∀ x ∈ e.xs, 0 ≤ x ∧ x < (i : Int)) (hsh : ∀ s ∈ txts c.u.es i, s.size ≤ 3000) (Q0 : Exit → Act → World → Prop) (u : Nat → Value) (k : Nat) (hlt : k < e.xs.length) :
    Code.wp Tryz.prog conBody (Exit.then (fun a' wx => ConI c i ge e w' a' wx ∧ conMu e a' < e.xs.length - k) Q0) { tmps := List.toArray ((c.val) :: (.pointer (some ⟨c.w.heap.size, 0, none⟩)) :: (u 2) :: (u 3) :: (.slice (some ⟨c.w.heap.size + 1, 0, none⟩) c.u.es.length c.u.es.length) :: (.slice (some ⟨c.w.heap.size + 2, 0, none⟩) c.u.es.length c.u.es.length) :: (.int .i64 (i : Int)) :: (.pointer (some ⟨ge, 0, none⟩)) :: (u 8) :: (.string (listTxt fCon (txts c.u.es i) e.s (e.xs.take k)).1) :: (.int .i64 (k : Int)) :: (u 11) :: (u 12) :: (u 13) :: (u 14) :: (u 15) :: (u 16) :: (u 17) :: (u 18) :: (u 19) :: (u 20) :: (u 21) :: (u 22) :: (u 23) :: (u 24) :: (u 25) :: (u 26) :: (u 27) :: (u 28) :: (u 29) :: (u 30) :: (u 31) :: (u 32) :: (u 33) :: (u 34) :: (u 35) :: (u 36) :: (u 37) :: (u 38) :: (u 39) :: (u 40) :: (u 41) :: (u 42) :: (u 43) :: (u 44) :: (u 45) :: (u 46) :: (u 47) :: (u 48) :: (u 49) :: (u 50) :: (u 51) :: (u 52) :: (u 53) :: (u 54) :: (u 55) :: (u 56) :: (u 57) :: (u 58) :: (u 59) :: (u 60) :: (u 61) :: (u 62) :: (u 63) :: (u 64) :: (u 65) :: (u 66) :: (u 67) :: (u 68) :: (u 69) :: (u 70) :: (u 71) :: (u 72) :: (u 73) :: (u 74) :: (u 75) :: (u 76) :: (u 77) :: (u 78) :: (u 79) :: (u 80) :: (u 81) :: (u 82) :: (u 83) :: (u 84) :: (u 85) :: (u 86) :: (u 87) :: (u 88) :: (u 89) :: (u 90) :: (u 91) :: (u 92) :: (u 93) :: (u 94) :: (u 95) :: (u 96) :: (u 97) :: (u 98) :: (u 99) :: (u 100) :: (u 101) :: (u 102) :: (u 103) :: (u 104) :: (u 105) :: (u 106) :: (u 107) :: (u 108) :: (u 109) :: (u 110) :: (u 111) :: (u 112) :: (u 113) :: (u 114) :: (u 115) :: (u 116) :: (u 117) :: (u 118) :: (u 119) :: (u 120) :: (u 121) :: (u 122) :: (u 123) :: (u 124) :: (u 125) :: (u 126) :: (u 127) :: (u 128) :: (u 129) :: (u 130) :: (u 131) :: (u 132) :: (u 133) :: (u 134) :: (u 135) :: (u 136) :: (u 137) :: (u 138) :: (u 139) :: (u 140) :: (u 141) :: (u 142) :: (u 143) :: (u 144) :: (u 145) :: (u 146) :: (u 147) :: (u 148) :: (u 149) :: (u 150) :: (u 151) :: (u 152) :: (u 153) :: (u 154) :: (u 155) :: (u 156) :: (u 157) :: (u 158) :: (u 159) :: (u 160) :: (u 161) :: (u 162) :: (u 163) :: (u 164) :: (u 165) :: (u 166) :: (u 167) :: (u 168) :: (u 169) :: (u 170) :: (u 171) :: (u 172) :: (u 173) :: (u 174) :: (u 175) :: (u 176) :: (u 177) :: (u 178) :: (u 179) :: (u 180) :: (u 181) :: (u 182) :: (u 183) :: (u 184) :: (u 185) :: (u 186) :: (u 187) :: (u 188) :: (u 189) :: (u 190) :: (u 191) :: (u 192) :: (u 193) :: (u 194) :: (u 195) :: (u 196) :: (u 197) :: (u 198) :: (u 199) :: (u 200) :: (u 201) :: (u 202) :: (u 203) :: (u 204) :: (u 205) :: (u 206) :: (u 207) :: (u 208) :: (u 209) :: (u 210) :: (u 211) :: (u 212) :: (u 213) :: (u 214) :: (u 215) :: (u 216) :: (u 217) :: (u 218) :: (u 219) :: (u 220) :: (u 221) :: (u 222) :: (u 223) :: []), defers := [] } w' := by
  have c0 := cell_of_row _ ge 0 _ _ _ hK
  have c1 := cell_of_row _ ge 1 _ _ _ hK
  have c2 := cell_of_row _ ge 2 _ _ _ hK
  simp only [List.getElem?_toArray, List.getElem?_cons_zero, List.getElem?_cons_succ] at c0 c1 c2
  obtain ⟨b, off, rfl, hSb, hx⟩ := hI k hlt
  have hin := hkid e.xs[k] (List.getElem_mem hlt)
  obtain ⟨m, hm⟩ := Int.eq_ofNat_of_zero_le hin.1
  have hmi : m < i := by have := hin.2; omega
  have hmt : m < (txts c.u.es i).length := by rw [txts_length]; exact hmi
  have hcell : w'.cell? ⟨c.w.heap.size + 2, m, none⟩ = some (.string (txts c.u.es i)[m]) := by
    have hlen : m < (txtCells (txts c.u.es i ++ List.replicate (c.u.es.length - i) (⟨#[]⟩ : BA))).length := by simp [txtCells, txts_length]; omega
    rw [cell_row st.outs hlen]
    simp [txtCells, List.getElem_append_left, hmt]
  have hos := hsh _ (List.getElem_mem hmt)
  have hsnd := listTxt_snd fCon (txts c.u.es i) e.s e.xs k (by omega)
  have hnx := listTxt_snoc fCon (txts c.u.es i) e.s (e.xs.take k) e.xs[k]
  rw [← List.take_succ_eq_append_getElem hlt] at hnx
  have hog : (txts c.u.es i).getD (e.xs[k]).toNat ⟨#[]⟩ = (txts c.u.es i)[m] := by rw [hm, Int.toNat_natCast]; simp [List.getD, hmt]
  rw [hog] at hnx
  have hsz := listTxt_size fCon fCon_size (txts c.u.es i) hsh e.s k e.xs
  have hsz2 : (listTxt fCon (txts c.u.es i) e.s (e.xs.take k)).1.size ≤ 3300000000 := by omega
  rw [hm] at hx
  have hmn : m < c.u.es.length := by omega
  have hi2 : i ≤ 60 := by have := c.few; omega
  have hnn : c.u.es.length ≤ 60 := c.few
  have HNX := Lib.hid hnx
  have HSND := Lib.hid hsnd
  clear hnx hsnd hog hsz hin hm hsh hkid hI hK st hSb
  generalize (txts c.u.es i)[m] = o at *
  obtain ⟨A, hA⟩ : ∃ A, A = (listTxt fCon (txts c.u.es i) e.s (e.xs.take k)).1 := ⟨_, rfl⟩
  rw [← hA] at hsz2 HNX ⊢
  by_cases hk0 : 0 < k
  · have hd : ((k : Int) == 0) = false := by simp; omega
    have HE := Lib.hid (show A ++ ⟨#[44, 32]⟩ ++ o = (listTxt fCon (txts c.u.es i) e.s (e.xs.take (k + 1))).1 by
      rw [HNX.out, HSND.out, decide_eq_true hk0]
      rfl)
    clear HNX HSND hA
    unfold conBody
    conv => arg 2; whnf
    go_wp2
    refine ⟨ConI_of (k := k + 1) _ rfl (by go_num) (by rw [HE.out]) (by omega) rfl, ?_⟩
    show e.xs.length - (intOf (.int .i64 _)).toNat < e.xs.length - k
    simp [intOf]; omega
  · have hd : ((k : Int) == 0) = true := by simp; omega
    have HE := Lib.hid (show A ++ ⟨#[40]⟩ ++ o = (listTxt fCon (txts c.u.es i) e.s (e.xs.take (k + 1))).1 by
      rw [HNX.out, HSND.out, decide_eq_false hk0]
      rfl)
    have HK0 := Lib.hid hk0
    clear HNX HSND hA hk0
    unfold conBody
    conv => arg 2; whnf
    go_wp2
    refine ⟨ConI_of (k := k + 1) _ rfl (by go_num) (by rw [HE.out]) (by omega) rfl, ?_⟩
    show e.xs.length - (intOf (.int .i64 _)).toNat < e.xs.length - k
    simp [intOf]; omega

set_option maxRecDepth 1000000 in
set_option maxHeartbeats 4000000 in
theorem con_end (c : Ctx) (i ge : Nat) (e : It) (ka : Option Addr) (kc : Nat) (w' : World) (hK : w'.heap[ge]? = some (.cells #[.int .i64 e.k, .string e.s, .slice ka e.xs.length kc] 49 (0, 0))) (_hl : e.s.size + e.xs.length ≤ 1048576) (Q0 : Exit → Act → World → Prop) (hend : ConEnd c i ge e w' Q0) (u : Nat → Value) (k : Nat) (hk : k ≤ e.xs.length) (hlt : ¬ k < e.xs.length) :
    Code.wp Tryz.prog conBody (Exit.then (fun a' wx => ConI c i ge e w' a' wx ∧ conMu e a' < e.xs.length - k) Q0) { tmps := List.toArray ((c.val) :: (.pointer (some ⟨c.w.heap.size, 0, none⟩)) :: (u 2) :: (u 3) :: (.slice (some ⟨c.w.heap.size + 1, 0, none⟩) c.u.es.length c.u.es.length) :: (.slice (some ⟨c.w.heap.size + 2, 0, none⟩) c.u.es.length c.u.es.length) :: (.int .i64 (i : Int)) :: (.pointer (some ⟨ge, 0, none⟩)) :: (u 8) :: (.string (listTxt fCon (txts c.u.es i) e.s (e.xs.take k)).1) :: (.int .i64 (k : Int)) :: (u 11) :: (u 12) :: (u 13) :: (u 14) :: (u 15) :: (u 16) :: (u 17) :: (u 18) :: (u 19) :: (u 20) :: (u 21) :: (u 22) :: (u 23) :: (u 24) :: (u 25) :: (u 26) :: (u 27) :: (u 28) :: (u 29) :: (u 30) :: (u 31) :: (u 32) :: (u 33) :: (u 34) :: (u 35) :: (u 36) :: (u 37) :: (u 38) :: (u 39) :: (u 40) :: (u 41) :: (u 42) :: (u 43) :: (u 44) :: (u 45) :: (u 46) :: (u 47) :: (u 48) :: (u 49) :: (u 50) :: (u 51) :: (u 52) :: (u 53) :: (u 54) :: (u 55) :: (u 56) :: (u 57) :: (u 58) :: (u 59) :: (u 60) :: (u 61) :: (u 62) :: (u 63) :: (u 64) :: (u 65) :: (u 66) :: (u 67) :: (u 68) :: (u 69) :: (u 70) :: (u 71) :: (u 72) :: (u 73) :: (u 74) :: (u 75) :: (u 76) :: (u 77) :: (u 78) :: (u 79) :: (u 80) :: (u 81) :: (u 82) :: (u 83) :: (u 84) :: (u 85) :: (u 86) :: (u 87) :: (u 88) :: (u 89) :: (u 90) :: (u 91) :: (u 92) :: (u 93) :: (u 94) :: (u 95) :: (u 96) :: (u 97) :: (u 98) :: (u 99) :: (u 100) :: (u 101) :: (u 102) :: (u 103) :: (u 104) :: (u 105) :: (u 106) :: (u 107) :: (u 108) :: (u 109) :: (u 110) :: (u 111) :: (u 112) :: (u 113) :: (u 114) :: (u 115) :: (u 116) :: (u 117) :: (u 118) :: (u 119) :: (u 120) :: (u 121) :: (u 122) :: (u 123) :: (u 124) :: (u 125) :: (u 126) :: (u 127) :: (u 128) :: (u 129) :: (u 130) :: (u 131) :: (u 132) :: (u 133) :: (u 134) :: (u 135) :: (u 136) :: (u 137) :: (u 138) :: (u 139) :: (u 140) :: (u 141) :: (u 142) :: (u 143) :: (u 144) :: (u 145) :: (u 146) :: (u 147) :: (u 148) :: (u 149) :: (u 150) :: (u 151) :: (u 152) :: (u 153) :: (u 154) :: (u 155) :: (u 156) :: (u 157) :: (u 158) :: (u 159) :: (u 160) :: (u 161) :: (u 162) :: (u 163) :: (u 164) :: (u 165) :: (u 166) :: (u 167) :: (u 168) :: (u 169) :: (u 170) :: (u 171) :: (u 172) :: (u 173) :: (u 174) :: (u 175) :: (u 176) :: (u 177) :: (u 178) :: (u 179) :: (u 180) :: (u 181) :: (u 182) :: (u 183) :: (u 184) :: (u 185) :: (u 186) :: (u 187) :: (u 188) :: (u 189) :: (u 190) :: (u 191) :: (u 192) :: (u 193) :: (u 194) :: (u 195) :: (u 196) :: (u 197) :: (u 198) :: (u 199) :: (u 200) :: (u 201) :: (u 202) :: (u 203) :: (u 204) :: (u 205) :: (u 206) :: (u 207) :: (u 208) :: (u 209) :: (u 210) :: (u 211) :: (u 212) :: (u 213) :: (u 214) :: (u 215) :: (u 216) :: (u 217) :: (u 218) :: (u 219) :: (u 220) :: (u 221) :: (u 222) :: (u 223) :: []), defers := [] } w' := by
  obtain rfl : k = e.xs.length := by omega
  have c0 := cell_of_row _ ge 0 _ _ _ hK
  have c1 := cell_of_row _ ge 1 _ _ _ hK
  have c2 := cell_of_row _ ge 2 _ _ _ hK
  simp only [List.getElem?_toArray, List.getElem?_cons_zero, List.getElem?_cons_succ] at c0 c1 c2
  rw [List.take_length]
  have HE := Lib.hid hend
  clear hend hK
  unfold conBody
  conv => arg 2; whnf
  go_wp2
  refine HE.out.mk _ ?_
  rfl

set_option maxRecDepth 1000000 in
theorem con_loop_at (arr : Array Value) (c : Ctx) (i ge : Nat) (hi : i < c.u.es.length) (e : It) (ka : Option Addr) (kc : Nat) (cn : List Int) (w' : World) (st : Lies c cn (txts c.u.es i ++ List.replicate (c.u.es.length - i) (⟨#[]⟩ : BA)) w') (hK : w'.heap[ge]? = some (.cells #[.int .i64 e.k, .string e.s, .slice ka e.xs.length kc] 49 (0, 0))) (hI : IntsIn c.S w' ka e.xs) (hl : e.s.size + e.xs.length ≤ 1048576) (hkid : ∀ x ∈ e.xs, 0 ≤ x ∧ x < (i : Int)) (hsh : ∀ s ∈ txts c.u.es i, s.size ≤ 3000) (Q0 : Exit → Act → World → Prop) (hend : ConEnd c i ge e w' Q0) (ha : ({ tmps := arr, defers := [] } : Act) = { tmps := List.toArray ((c.val) :: (.pointer (some ⟨c.w.heap.size, 0, none⟩)) :: (arr.getD 2 undef) :: (arr.getD 3 undef) :: (.slice (some ⟨c.w.heap.size + 1, 0, none⟩) c.u.es.length c.u.es.length) :: (.slice (some ⟨c.w.heap.size + 2, 0, none⟩) c.u.es.length c.u.es.length) :: (.int .i64 (i : Int)) :: (.pointer (some ⟨ge, 0, none⟩)) :: (arr.getD 8 undef) :: (.string e.s) :: (.int .i64 0) :: (arr.getD 11 undef) :: (arr.getD 12 undef) :: (arr.getD 13 undef) :: (arr.getD 14 undef) :: (arr.getD 15 undef) :: (arr.getD 16 undef) :: (arr.getD 17 undef) :: (arr.getD 18 undef) :: (arr.getD 19 undef) :: (arr.getD 20 undef) :: (arr.getD 21 undef) :: (arr.getD 22 undef) :: (arr.getD 23 undef) :: (arr.getD 24 undef) :: (arr.getD 25 undef) :: (arr.getD 26 undef) :: (arr.getD 27 undef) :: (arr.getD 28 undef) :: (arr.getD 29 undef) :: (arr.getD 30 undef) :: (arr.getD 31 undef) :: (arr.getD 32 undef) :: (arr.getD 33 undef) :: (arr.getD 34 undef) :: (arr.getD 35 undef) :: (arr.getD 36 undef) :: (arr.getD 37 undef) :: (arr.getD 38 undef) :: (arr.getD 39 undef) :: (arr.getD 40 undef) :: (arr.getD 41 undef) :: (arr.getD 42 undef) :: (arr.getD 43 undef) :: (arr.getD 44 undef) :: (arr.getD 45 undef) :: (arr.getD 46 undef) :: (arr.getD 47 undef) :: (arr.getD 48 undef) :: (arr.getD 49 undef) :: (arr.getD 50 undef) :: (arr.getD 51 undef) :: (arr.getD 52 undef) :: (arr.getD 53 undef) :: (arr.getD 54 undef) :: (arr.getD 55 undef) :: (arr.getD 56 undef) :: (arr.getD 57 undef) :: (arr.getD 58 undef) :: (arr.getD 59 undef) :: (arr.getD 60 undef) :: (arr.getD 61 undef) :: (arr.getD 62 undef) :: (arr.getD 63 undef) :: (arr.getD 64 undef) :: (arr.getD 65 undef) :: (arr.getD 66 undef) :: (arr.getD 67 undef) :: (arr.getD 68 undef) :: (arr.getD 69 undef) :: (arr.getD 70 undef) :: (arr.getD 71 undef) :: (arr.getD 72 undef) :: (arr.getD 73 undef) :: (arr.getD 74 undef) :: (arr.getD 75 undef) :: (arr.getD 76 undef) :: (arr.getD 77 undef) :: (arr.getD 78 undef) :: (arr.getD 79 undef) :: (arr.getD 80 undef) :: (arr.getD 81 undef) :: (arr.getD 82 undef) :: (arr.getD 83 undef) :: (arr.getD 84 undef) :: (arr.getD 85 undef) :: (arr.getD 86 undef) :: (arr.getD 87 undef) :: (arr.getD 88 undef) :: (arr.getD 89 undef) :: (arr.getD 90 undef) :: (arr.getD 91 undef) :: (arr.getD 92 undef) :: (arr.getD 93 undef) :: (arr.getD 94 undef) :: (arr.getD 95 undef) :: (arr.getD 96 undef) :: (arr.getD 97 undef) :: (arr.getD 98 undef) :: (arr.getD 99 undef) :: (arr.getD 100 undef) :: (arr.getD 101 undef) :: (arr.getD 102 undef) :: (arr.getD 103 undef) :: (arr.getD 104 undef) :: (arr.getD 105 undef) :: (arr.getD 106 undef) :: (arr.getD 107 undef) :: (arr.getD 108 undef) :: (arr.getD 109 undef) :: (arr.getD 110 undef) :: (arr.getD 111 undef) :: (arr.getD 112 undef) :: (arr.getD 113 undef) :: (arr.getD 114 undef) :: (arr.getD 115 undef) :: (arr.getD 116 undef) :: (arr.getD 117 undef) :: (arr.getD 118 undef) :: (arr.getD 119 undef) :: (arr.getD 120 undef) :: (arr.getD 121 undef) :: (arr.getD 122 undef) :: (arr.getD 123 undef) :: (arr.getD 124 undef) :: (arr.getD 125 undef) :: (arr.getD 126 undef) :: (arr.getD 127 undef) :: (arr.getD 128 undef) :: (arr.getD 129 undef) :: (arr.getD 130 undef) :: (arr.getD 131 undef) :: (arr.getD 132 undef) :: (arr.getD 133 undef) :: (arr.getD 134 undef) :: (arr.getD 135 undef) :: (arr.getD 136 undef) :: (arr.getD 137 undef) :: (arr.getD 138 undef) :: (arr.getD 139 undef) :: (arr.getD 140 undef) :: (arr.getD 141 undef) :: (arr.getD 142 undef) :: (arr.getD 143 undef) :: (arr.getD 144 undef) :: (arr.getD 145 undef) :: (arr.getD 146 undef) :: (arr.getD 147 undef) :: (arr.getD 148 undef) :: (arr.getD 149 undef) :: (arr.getD 150 undef) :: (arr.getD 151 undef) :: (arr.getD 152 undef) :: (arr.getD 153 undef) :: (arr.getD 154 undef) :: (arr.getD 155 undef) :: (arr.getD 156 undef) :: (arr.getD 157 undef) :: (arr.getD 158 undef) :: (arr.getD 159 undef) :: (arr.getD 160 undef) :: (arr.getD 161 undef) :: (arr.getD 162 undef) :: (arr.getD 163 undef) :: (arr.getD 164 undef) :: (arr.getD 165 undef) :: (arr.getD 166 undef) :: (arr.getD 167 undef) :: (arr.getD 168 undef) :: (arr.getD 169 undef) :: (arr.getD 170 undef) :: (arr.getD 171 undef) :: (arr.getD 172 undef) :: (arr.getD 173 undef) :: (arr.getD 174 undef) :: (arr.getD 175 undef) :: (arr.getD 176 undef) :: (arr.getD 177 undef) :: (arr.getD 178 undef) :: (arr.getD 179 undef) :: (arr.getD 180 undef) :: (arr.getD 181 undef) :: (arr.getD 182 undef) :: (arr.getD 183 undef) :: (arr.getD 184 undef) :: (arr.getD 185 undef) :: (arr.getD 186 undef) :: (arr.getD 187 undef) :: (arr.getD 188 undef) :: (arr.getD 189 undef) :: (arr.getD 190 undef) :: (arr.getD 191 undef) :: (arr.getD 192 undef) :: (arr.getD 193 undef) :: (arr.getD 194 undef) :: (arr.getD 195 undef) :: (arr.getD 196 undef) :: (arr.getD 197 undef) :: (arr.getD 198 undef) :: (arr.getD 199 undef) :: (arr.getD 200 undef) :: (arr.getD 201 undef) :: (arr.getD 202 undef) :: (arr.getD 203 undef) :: (arr.getD 204 undef) :: (arr.getD 205 undef) :: (arr.getD 206 undef) :: (arr.getD 207 undef) :: (arr.getD 208 undef) :: (arr.getD 209 undef) :: (arr.getD 210 undef) :: (arr.getD 211 undef) :: (arr.getD 212 undef) :: (arr.getD 213 undef) :: (arr.getD 214 undef) :: (arr.getD 215 undef) :: (arr.getD 216 undef) :: (arr.getD 217 undef) :: (arr.getD 218 undef) :: (arr.getD 219 undef) :: (arr.getD 220 undef) :: (arr.getD 221 undef) :: (arr.getD 222 undef) :: (arr.getD 223 undef) :: []), defers := [] }) :
    Code.wp Tryz.prog (Code.loop conBody) Q0 { tmps := arr, defers := [] } w' := by
  refine wp_loop (ConI c i ge e w') (fun a _ => conMu e a) ?_ (fun a w'' hI' => ?_)
  · exact ConI_of (k := 0) _ ha rfl rfl (Nat.zero_le _) rfl
  · obtain ⟨u', hI'⟩ := hI'
    obtain ⟨k, hI'⟩ := hI'
    obtain ⟨v9, hI'⟩ := hI'
    obtain ⟨v10, hI'⟩ := hI'
    obtain ⟨h10, hI'⟩ := hI'
    obtain ⟨h9, hI'⟩ := hI'
    obtain ⟨hk, hI'⟩ := hI'
    obtain ⟨hw, hI'⟩ := hI'
    subst h10
    subst h9
    subst hw
    subst hI'
    by_cases hlt : k < e.xs.length
    · exact con_step c i ge hi e ka kc cn w'' st hK hI hl hkid hsh Q0 u' k hlt
    · exact con_end c i ge e ka kc w'' hK hl Q0 hend u' k hk hlt

end Go.Proofs.YtilijbpbnlnhlaaGreat.Pr
