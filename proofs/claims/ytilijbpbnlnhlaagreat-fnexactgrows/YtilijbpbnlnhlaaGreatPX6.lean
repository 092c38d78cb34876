/-
  THE WALK over spec.l04Exps: sums.
-/
import Derived.Test.YtilijbpbnlnhlaaGreatPX5
namespace Go.Proofs.YtilijbpbnlnhlaaGreat.Pr
open Go Go.RowKit Go.Maps Go.WideMaps


set_option maxRecDepth 1000000 in
set_option maxHeartbeats 4000000 in
theorem exps_add (c : Ctx) (Q0 : Exit → Act → World → Prop) (hret : RetF c Q0) (u : Nat → Value) (i : Nat) (wr : World) (st : ExpSt c i wr) (hi : i < c.u.es.length) (hk : c.u.es[i].k = 5) :
    Code.wp Tryz.prog expBody (Exit.then (fun a' wx => ExpI c a' wx ∧ expMu c a' < c.u.es.length - i) Q0) { tmps := List.toArray ((c.val) :: (.pointer (some ⟨c.w.heap.size, 0, none⟩)) :: (u 2) :: (u 3) :: (.slice (some ⟨c.w.heap.size + 1, 0, none⟩) c.u.es.length c.u.es.length) :: (.slice (some ⟨c.w.heap.size + 2, 0, none⟩) c.u.es.length c.u.es.length) :: (.int .i64 (i : Int)) :: (u 7) :: (u 8) :: (u 9) :: (u 10) :: (u 11) :: (u 12) :: (u 13) :: (u 14) :: (u 15) :: (u 16) :: (u 17) :: (u 18) :: (u 19) :: (u 20) :: (u 21) :: (u 22) :: (u 23) :: (u 24) :: (u 25) :: (u 26) :: (u 27) :: (u 28) :: (u 29) :: (u 30) :: (u 31) :: (u 32) :: (u 33) :: (u 34) :: (u 35) :: (u 36) :: (u 37) :: (u 38) :: (u 39) :: (u 40) :: (u 41) :: (u 42) :: (u 43) :: (u 44) :: (u 45) :: (u 46) :: (u 47) :: (u 48) :: (u 49) :: (u 50) :: (u 51) :: (u 52) :: (u 53) :: (u 54) :: (u 55) :: (u 56) :: (u 57) :: (u 58) :: (u 59) :: (u 60) :: (u 61) :: (u 62) :: (u 63) :: (u 64) :: (u 65) :: (u 66) :: (u 67) :: (u 68) :: (u 69) :: (u 70) :: (u 71) :: (u 72) :: (u 73) :: (u 74) :: (u 75) :: (u 76) :: (u 77) :: (u 78) :: (u 79) :: (u 80) :: (u 81) :: (u 82) :: (u 83) :: (u 84) :: (u 85) :: (u 86) :: (u 87) :: (u 88) :: (u 89) :: (u 90) :: (u 91) :: (u 92) :: (u 93) :: (u 94) :: (u 95) :: (u 96) :: (u 97) :: (u 98) :: (u 99) :: (u 100) :: (u 101) :: (u 102) :: (u 103) :: (u 104) :: (u 105) :: (u 106) :: (u 107) :: (u 108) :: (u 109) :: (u 110) :: (u 111) :: (u 112) :: (u 113) :: (u 114) :: (u 115) :: (u 116) :: (u 117) :: (u 118) :: (u 119) :: (u 120) :: (u 121) :: (u 122) :: (u 123) :: (u 124) :: (u 125) :: (u 126) :: (u 127) :: (u 128) :: (u 129) :: (u 130) :: (u 131) :: (u 132) :: (u 133) :: (u 134) :: (u 135) :: (u 136) :: (u 137) :: (u 138) :: (u 139) :: (u 140) :: (u 141) :: (u 142) :: (u 143) :: (u 144) :: (u 145) :: (u 146) :: (u 147) :: (u 148) :: (u 149) :: (u 150) :: (u 151) :: (u 152) :: (u 153) :: (u 154) :: (u 155) :: (u 156) :: (u 157) :: (u 158) :: (u 159) :: (u 160) :: (u 161) :: (u 162) :: (u 163) :: (u 164) :: (u 165) :: (u 166) :: (u 167) :: (u 168) :: (u 169) :: (u 170) :: (u 171) :: (u 172) :: (u 173) :: (u 174) :: (u 175) :: (u 176) :: (u 177) :: (u 178) :: (u 179) :: (u 180) :: (u 181) :: (u 182) :: (u 183) :: (u 184) :: (u 185) :: (u 186) :: (u 187) :: (u 188) :: (u 189) :: (u 190) :: (u 191) :: (u 192) :: (u 193) :: (u 194) :: (u 195) :: (u 196) :: (u 197) :: (u 198) :: (u 199) :: (u 200) :: (u 201) :: (u 202) :: (u 203) :: (u 204) :: (u 205) :: (u 206) :: (u 207) :: (u 208) :: (u 209) :: (u 210) :: (u 211) :: (u 212) :: (u 213) :: (u 214) :: (u 215) :: (u 216) :: (u 217) :: (u 218) :: (u 219) :: (u 220) :: (u 221) :: (u 222) :: (u 223) :: []), defers := [] } wr := by
  obtain ⟨b, off, vs, hae, hSb, hvl, hcc, ka, kc, rfl, hI⟩ := RowIn.kept FIt_keeps c.hes st.lies.mem i hi
  obtain ⟨e, he⟩ : ∃ e, c.u.es[i] = e := ⟨_, rfl⟩
  have hxsl := c.xsl hi
  rw [he] at hI hcc hxsl
  have x0 : wr.cell? ⟨b, off + i * 3, none⟩ = some (.int .i64 e.k) := hcc 0 (by simp)
  have x1 : wr.cell? ⟨b, off + i * 3 + 1, none⟩ = some (.string e.s) := hcc 1 (by simp)
  have x2 : wr.cell? ⟨b, off + i * 3 + 2, none⟩ = some (.slice ka e.xs.length kc) := hcc 2 (by simp)
  have p0 : wr.cell? ⟨c.w.heap.size, 0, none⟩ = some (.slice (some ⟨b, off, none⟩) c.u.es.length c.ces) := by
    rw [cell_row st.lies.par (j := 0) (by simp [Ctx.cells])]
    simp [Ctx.cells, hae]
  have hsz := st.lies.size
  have hbw : Below wr.heap.size wr (wr.alloc (.cells #[.int .i64 e.k, .string e.s, .slice ka e.xs.length kc] 49)) := (Below.refl _ _).alloc (Nat.le_refl _) _
  have hK := heap_alloc_new wr (.cells #[.int .i64 e.k, .string e.s, .slice ka e.xs.length kc] 49)
  have hI1 := hI.kept (Same.below (fun q hq => Nat.lt_of_lt_of_le (c.hS q hq) st.lies.below.size) hbw)
  have hL1 := st.lies.go hbw
  have hrl : (refs (c.u.es.take i)).length ≤ 1048576 := refs_len _ (by have := wsum_take_le It.wt c.u.es i; have := c.esw; omega)
  have hnn := c.few
  obtain ⟨w', hw'⟩ : ∃ w', wr.alloc (.cells #[.int .i64 e.k, .string e.s, .slice ka e.xs.length kc] 49) = w' := ⟨_, rfl⟩
  have hsz' : w'.heap.size = wr.heap.size + 1 := by rw [← hw']; simp
  rw [hw'] at hbw hK hI1 hL1
  have HW := Lib.hid hw'
  have HK := Lib.hid hK
  have HI1 := Lib.hid hI1
  have HL1 := Lib.hid hL1
  have HRET := Lib.hid hret
  have HST := Lib.hid st
  have HCC := Lib.hid hcc
  have HHE := Lib.hid he
  have HHAE := Lib.hid hae
  clear hcc hI hbw hK hI1 hL1 hret st hvl hSb hw' he hae
  unfold expBody
  conv => arg 2; whnf
  go_wp2
  rw [HW.out]
  change Code.wp Tryz.prog (Code.loop kidBody) _ _ _
  refine kid_loop_at _ c i wr.heap.size hi hsz e ka kc HHE.out (refs (c.u.es.take i)) hrl w' HK.out HI1.out (by omega) _ ?_ ?_ HL1.out.below HL1.out.used rfl
  · intro a w1 hng hb hd h3
    exact HRET.out a w1 hng hb hd h3
  · intro u' w'' hks
    have hL2 : Lies c (cnts c.u.es.length (refs (c.u.es.take i) ++ e.xs)) (txts c.u.es i ++ List.replicate (c.u.es.length - i) (⟨#[]⟩ : BA)) w'' := HL1.out.bump hks.but (by rw [hks.used, List.take_length])
    have hkid : ∀ x ∈ c.u.es[i].xs, 0 ≤ x ∧ x < (i : Int) := by rw [HHE.out]; intro x hx; exact hks.ok x (by rw [List.take_length]; exact hx)
    have kE := (hks.but.other wr.heap.size (by omega)).trans HK.out
    have hI2 := HI1.out.kept (hks.but.same (fun h => by have := c.hS _ h; omega))
    have hsz2 := hks.but.size
    have HKID := Lib.hid hkid
    have HKE := Lib.hid kE
    have HL2 := Lib.hid hL2
    have HI2 := Lib.hid hI2
    have d0 := cell_of_row _ wr.heap.size 0 _ _ _ kE
    have d1 := cell_of_row _ wr.heap.size 1 _ _ _ kE
    have d2 := cell_of_row _ wr.heap.size 2 _ _ _ kE
    simp only [List.getElem?_toArray, List.getElem?_cons_zero, List.getElem?_cons_succ] at d0 d1 d2
    have ho : w''.cell? ⟨c.w.heap.size + 2, i, none⟩ = some (.string ⟨#[]⟩) := by
      have hlen : i < (txtCells (txts c.u.es i ++ List.replicate (c.u.es.length - i) (⟨#[]⟩ : BA))).length := by simp [txtCells, txts_length]; omega
      rw [cell_row hL2.outs hlen]
      simp [txtCells, List.getElem_append_right, txts_length]
    have hfo : w''.frozen? ⟨c.w.heap.size + 2, i, none⟩ = false := by simp [World.frozen?, hL2.outs]
    have hfin : ∀ s : BA, s = expTxt c.u.es (txts c.u.es i) c.u.es[i] → kindOk c.u.es[i] = true → s.size ≤ 3000 → ExpSt c (i + 1) (w''.setCell ⟨c.w.heap.size + 2, i, none⟩ (.string s)) := by
      intro s hs hk h3
      subst hs
      refine HST.out.next hi HKID.out hk h3 ?_
      have hbt := But.set (c.w.heap.size + 2) i w'' (.string (expTxt c.u.es (txts c.u.es i) c.u.es[i]))
      rw [HHE.out] at hbt ⊢
      exact ⟨(hbt.other _ (by omega)).trans HL2.out.par, (hbt.other _ (by omega)).trans HL2.out.used, by rw [set_row HL2.out.outs, txtCells_set], hbt.below HL2.out.below (by omega)⟩
    have HFIN := Lib.hid hfin
    have hrt : ∀ a : Act, ¬ c.good → a.defers = [] → a.tmps.getD 3 undef = .bool false → Q0 .ret a w'' := fun a hng h1 h2 => HRET.out a w'' hng HL2.out.below h1 h2
    have HRT := Lib.hid hrt
    clear hL2 hkid kE hI2 hfin hrt hks
    rename_i K hKK
    refine hKK _ _ ?_
    have hek : e.k = 5 := by rw [← HHE.out]; exact hk
    rw [hek] at d0
    rw [HHE.out] at HFIN HKID
    by_cases h2 : e.xs.length = 2
    · obtain ⟨x, y, hxy⟩ : ∃ x y, e.xs = [x, y] := by
        rcases hx : e.xs with _ | ⟨x, _ | ⟨y, _ | _⟩⟩ <;> rw [hx] at h2 <;> simp at h2
        exact ⟨x, y, rfl⟩
      have htx : expTxt c.u.es (txts c.u.es i) e = side c.u.es (txts c.u.es i) x ++ ⟨#[32, 43, 32]⟩ ++ side c.u.es (txts c.u.es i) y := by simp [expTxt, hek, isSum, hxy, signTxt]
      have hkt : kindOk e = true := by simp [kindOk, hek, isSum, hxy]
      have hne : ((e.xs.length : Int) != 2) = false := by rw [h2]; rfl
      have hbx := HKID.out x (by rw [hxy]; simp)
      have hby := HKID.out y (by rw [hxy]; simp)
      have hng : ∀ s : BA, s = side c.u.es (txts c.u.es i) x ++ ⟨#[32, 43, 32]⟩ ++ side c.u.es (txts c.u.es i) y → ¬ s.size ≤ 3000 → ¬ c.good := fun s hs h3 g => h3 (by have := Ctx.good_short g hi; rw [HHE.out, htx] at this; rw [hs]; exact this)
      have ssx := side_size c.u.es (txts c.u.es i) HST.out.short x
      have ssy := side_size c.u.es (txts c.u.es i) HST.out.short y
      obtain ⟨W1, hW1⟩ : ∃ W1, w''.alloc (.cells #[.string ⟨#[32, 43, 32]⟩, .string ⟨#[32, 45, 32]⟩, .string ⟨#[32, 42, 32]⟩] 9) = W1 := ⟨_, rfl⟩
      have hbW : Below w''.heap.size w'' W1 := by rw [← hW1]; exact (Below.refl _ _).alloc (Nat.le_refl _) _
      have kS : W1.heap[w''.heap.size]? = some (.cells #[.string ⟨#[32, 43, 32]⟩, .string ⟨#[32, 45, 32]⟩, .string ⟨#[32, 42, 32]⟩] 9 (0, 0)) := by rw [← hW1]; exact heap_alloc_new w'' _
      have s0 := cell_of_row _ w''.heap.size 0 _ _ _ kS
      have s1 := cell_of_row _ w''.heap.size 1 _ _ _ kS
      have s2 := cell_of_row _ w''.heap.size 2 _ _ _ kS
      simp only [List.getElem?_toArray, List.getElem?_cons_zero, List.getElem?_cons_succ] at s0 s1 s2
      have hLW := HL2.out.go hbW
      have HS1 := Lib.hid (fun (W : World) (hW : Below W1.heap.size W1 W) => side_at c i hi _ W (hLW.go hW) HST.out.short x hbx.1 hbx.2)
      have HS2 := Lib.hid (fun (W : World) (hW : Below W1.heap.size W1 W) => side_at c i hi _ W (hLW.go hW) HST.out.short y hby.1 hby.2)
      obtain ⟨b3, off3, hka, hSb3, hxx⟩ := (HI2.out.kept (Same.below (fun q hq => by have := c.hS q hq; omega) hbW)) 0 (by omega)
      obtain ⟨b3', off3', hka', _, hyy⟩ := (HI2.out.kept (Same.below (fun q hq => by have := c.hS q hq; omega) hbW)) 1 (by omega)
      obtain ⟨rfl, rfl⟩ : b3 = b3' ∧ off3 = off3' := by rw [hka] at hka'; simpa using hka'
      simp only [hxy, List.getElem_cons_zero, List.getElem_cons_succ, Nat.add_zero] at hxx hyy
      have kE1 := (hbW.block _ (lt_of_block HKE.out)).trans HKE.out
      have q0 := cell_of_row _ wr.heap.size 0 _ _ _ kE1
      have q1 := cell_of_row _ wr.heap.size 1 _ _ _ kE1
      have q2 := cell_of_row _ wr.heap.size 2 _ _ _ kE1
      simp only [List.getElem?_toArray, List.getElem?_cons_zero, List.getElem?_cons_succ] at q0 q1 q2
      rw [hek] at q0
      rw [hka, h2] at q2 d2
      have r0 := cell_of_row _ c.w.heap.size 0 _ _ _ hLW.par
      have r1 := cell_of_row _ c.w.heap.size 1 _ _ _ hLW.par
      have r2 := cell_of_row _ c.w.heap.size 2 _ _ _ hLW.par
      have r3 := cell_of_row _ c.w.heap.size 3 _ _ _ hLW.par
      have r4 := cell_of_row _ c.w.heap.size 4 _ _ _ hLW.par
      simp only [Ctx.cells, List.getElem?_toArray, List.getElem?_cons_zero, List.getElem?_cons_succ] at r0 r1 r2 r3 r4
      have hg1 : c.w.heap.size < W1.heap.size := lt_of_block hLW.par
      have hg2 : wr.heap.size < W1.heap.size := lt_of_block kE1
      have hg3 : b3 < W1.heap.size := by have := c.hS _ hSb3; omega
      have hB0 : Below W1.heap.size W1 W1 := Below.refl _ _
      have hfin2 : ∀ wz, Below W1.heap.size W1 wz → ∀ s : BA, s = side c.u.es (txts c.u.es i) x ++ ⟨#[32, 43, 32]⟩ ++ side c.u.es (txts c.u.es i) y → s.size ≤ 3000 → ExpSt c (i + 1) (wz.setCell ⟨c.w.heap.size + 2, i, none⟩ (.string s)) := by
        intro wz hwz s hs h3
        have hL3 := hLW.go hwz
        have hbt := But.set (c.w.heap.size + 2) i wz (.string s)
        refine HST.out.next hi (by rw [HHE.out]; exact HKID.out) (by rw [HHE.out]; exact hkt) (by rw [HHE.out, htx, ← hs]; exact h3) ?_
        rw [HHE.out, htx, ← hs]
        exact ⟨(hbt.other _ (by omega)).trans hL3.par, (hbt.other _ (by omega)).trans hL3.used, by rw [set_row hL3.outs, txtCells_set], hbt.below hL3.below (by omega)⟩
      have HFIN2 := Lib.hid hfin2
      have HNG := Lib.hid hng
      have hro : ∀ wz, Below W1.heap.size W1 wz → wz.cell? ⟨c.w.heap.size + 2, i, none⟩ = some (.string ⟨#[]⟩) ∧ wz.frozen? ⟨c.w.heap.size + 2, i, none⟩ = false ∧ (∀ a : Act, ¬ c.good → a.defers = [] → a.tmps.getD 3 undef = .bool false → Q0 .ret a wz) := by
        intro wz hwz
        have hL3 := hLW.go hwz
        refine ⟨?_, by simp [World.frozen?, hL3.outs], fun a hng h1 h2 => HRET.out a wz hng hL3.below h1 h2⟩
        have hlen : i < (txtCells (txts c.u.es i ++ List.replicate (c.u.es.length - i) (⟨#[]⟩ : BA))).length := by simp [txtCells, txts_length]; omega
        rw [cell_row hL3.outs hlen]
        simp [txtCells, List.getElem_append_right, txts_length]
      have HRO := Lib.hid hro
      clear hfin2 hng hro hLW kE1 kS HFIN HRT htx hkt hbW HHE HKE HI2 HI1 HL1 HL2 HKID HST hka' HCC HHAE HK HW hbx hby hxy x0 x1 x2 p0 ho hfo HRET h2 hka hsz' hsz2
      generalize side c.u.es (txts c.u.es i) x = sx at *
      generalize side c.u.es (txts c.u.es i) y = sy at *
      have hc1 : ¬ (9223372036854775807 < sx.size + 3) := by omega
      have hc2 : ¬ (9223372036854775807 < sx.size + 3 + sy.size) := by omega
      go_wp2
      go_region_held3 (fun w' => w'.cell? ⟨c.w.heap.size, 0, none⟩ = some (.slice c.aes c.u.es.length c.ces) ∧ w'.cell? ⟨c.w.heap.size, 1, none⟩ = some (.int .i64 c.u.hd.k) ∧ w'.cell? ⟨c.w.heap.size, 2, none⟩ = some (.string c.u.hd.s) ∧ w'.cell? ⟨c.w.heap.size, 3, none⟩ = some (.slice c.ahd c.u.hd.xs.length c.chd) ∧ w'.cell? ⟨c.w.heap.size, 4, none⟩ = some (.slice c.abd c.u.bd.length c.cbd) ∧ w'.cell? ⟨wr.heap.size, 2, none⟩ = some (.slice (some ⟨b3, off3, none⟩) 2 kc) ∧ w'.cell? ⟨b3, off3, none⟩ = some (.int .i64 x) ∧ w'.cell? ⟨b3, off3 + 1, none⟩ = some (.int .i64 y) ∧ Below W1.heap.size W1 w')
        (refine ⟨?_, ?_, ?_, ?_, ?_, ?_, ?_, ?_, ?_⟩ <;> (first | assumption | (simp [*]; done) | (apply Below.drew; assumption)))
        (first
          | (go_at_call_of 64 (Value.int IntKind.i64 x)
             refine (HS1.out _ (by first | assumption | (apply Below.drew; assumption))).mono ?_
             rintro e7 w7 ⟨rfl, hb7⟩
             have hb8 : Below W1.heap.size W1 w7 := below_keep (by first | assumption | (apply Below.drew; assumption)) hb7
             have z0 := (hb8.cell (p := ⟨c.w.heap.size, 0, none⟩) hg1).trans r0
             have z1 := (hb8.cell (p := ⟨c.w.heap.size, 1, none⟩) hg1).trans r1
             have z2 := (hb8.cell (p := ⟨c.w.heap.size, 2, none⟩) hg1).trans r2
             have z3 := (hb8.cell (p := ⟨c.w.heap.size, 3, none⟩) hg1).trans r3
             have z4 := (hb8.cell (p := ⟨c.w.heap.size, 4, none⟩) hg1).trans r4
             have z5 := (hb8.cell (p := ⟨wr.heap.size, 2, none⟩) hg2).trans q2
             have z6 := (hb8.cell (p := ⟨b3, off3, none⟩) hg3).trans hxx
             have z7 := (hb8.cell (p := ⟨b3, off3 + 1, none⟩) hg3).trans hyy
             clear hb7)
          | (go_at_call_of 64 (Value.int IntKind.i64 y)
             refine (HS2.out _ (by first | assumption | (apply Below.drew; assumption))).mono ?_
             rintro e7 w7 ⟨rfl, hb7⟩
             have hb8 : Below W1.heap.size W1 w7 := below_keep (by first | assumption | (apply Below.drew; assumption)) hb7
             have z0 := (hb8.cell (p := ⟨c.w.heap.size, 0, none⟩) hg1).trans r0
             have z1 := (hb8.cell (p := ⟨c.w.heap.size, 1, none⟩) hg1).trans r1
             have z2 := (hb8.cell (p := ⟨c.w.heap.size, 2, none⟩) hg1).trans r2
             have z3 := (hb8.cell (p := ⟨c.w.heap.size, 3, none⟩) hg1).trans r3
             have z4 := (hb8.cell (p := ⟨c.w.heap.size, 4, none⟩) hg1).trans r4
             have z5 := (hb8.cell (p := ⟨wr.heap.size, 2, none⟩) hg2).trans q2
             have z6 := (hb8.cell (p := ⟨b3, off3, none⟩) hg3).trans hxx
             have z7 := (hb8.cell (p := ⟨b3, off3 + 1, none⟩) hg3).trans hyy
             clear hb7))
      have hBz := hb8
      have q0' := (hBz.cell (p := ⟨wr.heap.size, 0, none⟩) hg2).trans q0
      have q2' := (hBz.cell (p := ⟨wr.heap.size, 2, none⟩) hg2).trans q2
      obtain ⟨ho, hfo, hrt⟩ := HRO.out _ hBz
      have hsl : (sx ++ (⟨#[32, 43, 32]⟩ : BA) ++ sy).size = sx.size + 3 + sy.size := by rw [ByteArray.size_append, ByteArray.size_append]; rfl
      by_cases h3 : sx.size + 3 + sy.size ≤ 3000
      · have HN := Lib.hid (HFIN2.out _ hBz (sx ++ ⟨#[32, 43, 32]⟩ ++ sy) rfl (by rw [hsl]; exact h3))
        have hd1 : decide ((3000 : Int) < (sx.size : Int) + 3 + (sy.size : Int)) = false := decide_eq_false (by omega)
        have hd2 : decide (3000 < sx.size + 3 + sy.size) = false := decide_eq_false (by omega)
        have hd3 : ¬ 3000 < sx.size + 3 + sy.size := by omega
        clear hrt HFIN2 HNG HRO HS1 HS2
        go_wp2
        refine ⟨ExpI_of (i := i + 1) _ rfl (by go_num) HN.out, ?_⟩
        show c.u.es.length - (intOf (.int .i64 _)).toNat < c.u.es.length - i
        simp [intOf]; omega
      · have HN := Lib.hid (fun a => hrt a (HNG.out (sx ++ ⟨#[32, 43, 32]⟩ ++ sy) rfl (by rw [hsl]; exact h3)))
        have hd1 : decide ((3000 : Int) < (sx.size : Int) + 3 + (sy.size : Int)) = true := decide_eq_true (by omega)
        have hd2 : decide (3000 < sx.size + 3 + sy.size) = true := decide_eq_true (by omega)
        have hd3 : 3000 < sx.size + 3 + sy.size := by omega
        clear hrt HFIN2 HNG HRO HS1 HS2
        go_wp2
        exact HN.out _ rfl rfl
    · have hne : ((e.xs.length : Int) != 2) = true := by simp; omega
      have hng : ¬ c.good := fun g => by
        have := g.1.kind c.u.es[i] (List.getElem_mem hi)
        rw [HHE.out] at this
        simp [kindOk, hek, isSum] at this
        omega
      have HN := Lib.hid (fun a => HRT.out a hng)
      clear HFIN HRT hng
      go_wp2
      exact HN.out _ rfl rfl


set_option maxRecDepth 1000000 in
set_option maxHeartbeats 4000000 in
theorem exps_sub (c : Ctx) (Q0 : Exit → Act → World → Prop) (hret : RetF c Q0) (u : Nat → Value) (i : Nat) (wr : World) (st : ExpSt c i wr) (hi : i < c.u.es.length) (hk : c.u.es[i].k = 6) :
    Code.wp Tryz.prog expBody (Exit.then (fun a' wx => ExpI c a' wx ∧ expMu c a' < c.u.es.length - i) Q0) { tmps := List.toArray ((c.val) :: (.pointer (some ⟨c.w.heap.size, 0, none⟩)) :: (u 2) :: (u 3) :: (.slice (some ⟨c.w.heap.size + 1, 0, none⟩) c.u.es.length c.u.es.length) :: (.slice (some ⟨c.w.heap.size + 2, 0, none⟩) c.u.es.length c.u.es.length) :: (.int .i64 (i : Int)) :: (u 7) :: (u 8) :: (u 9) :: (u 10) :: (u 11) :: (u 12) :: (u 13) :: (u 14) :: (u 15) :: (u 16) :: (u 17) :: (u 18) :: (u 19) :: (u 20) :: (u 21) :: (u 22) :: (u 23) :: (u 24) :: (u 25) :: (u 26) :: (u 27) :: (u 28) :: (u 29) :: (u 30) :: (u 31) :: (u 32) :: (u 33) :: (u 34) :: (u 35) :: (u 36) :: (u 37) :: (u 38) :: (u 39) :: (u 40) :: (u 41) :: (u 42) :: (u 43) :: (u 44) :: (u 45) :: (u 46) :: (u 47) :: (u 48) :: (u 49) :: (u 50) :: (u 51) :: (u 52) :: (u 53) :: (u 54) :: (u 55) :: (u 56) :: (u 57) :: (u 58) :: (u 59) :: (u 60) :: (u 61) :: (u 62) :: (u 63) :: (u 64) :: (u 65) :: (u 66) :: (u 67) :: (u 68) :: (u 69) :: (u 70) :: (u 71) :: (u 72) :: (u 73) :: (u 74) :: (u 75) :: (u 76) :: (u 77) :: (u 78) :: (u 79) :: (u 80) :: (u 81) :: (u 82) :: (u 83) :: (u 84) :: (u 85) :: (u 86) :: (u 87) :: (u 88) :: (u 89) :: (u 90) :: (u 91) :: (u 92) :: (u 93) :: (u 94) :: (u 95) :: (u 96) :: (u 97) :: (u 98) :: (u 99) :: (u 100) :: (u 101) :: (u 102) :: (u 103) :: (u 104) :: (u 105) :: (u 106) :: (u 107) :: (u 108) :: (u 109) :: (u 110) :: (u 111) :: (u 112) :: (u 113) :: (u 114) :: (u 115) :: (u 116) :: (u 117) :: (u 118) :: (u 119) :: (u 120) :: (u 121) :: (u 122) :: (u 123) :: (u 124) :: (u 125) :: (u 126) :: (u 127) :: (u 128) :: (u 129) :: (u 130) :: (u 131) :: (u 132) :: (u 133) :: (u 134) :: (u 135) :: (u 136) :: (u 137) :: (u 138) :: (u 139) :: (u 140) :: (u 141) :: (u 142) :: (u 143) :: (u 144) :: (u 145) :: (u 146) :: (u 147) :: (u 148) :: (u 149) :: (u 150) :: (u 151) :: (u 152) :: (u 153) :: (u 154) :: (u 155) :: (u 156) :: (u 157) :: (u 158) :: (u 159) :: (u 160) :: (u 161) :: (u 162) :: (u 163) :: (u 164) :: (u 165) :: (u 166) :: (u 167) :: (u 168) :: (u 169) :: (u 170) :: (u 171) :: (u 172) :: (u 173) :: (u 174) :: (u 175) :: (u 176) :: (u 177) :: (u 178) :: (u 179) :: (u 180) :: (u 181) :: (u 182) :: (u 183) :: (u 184) :: (u 185) :: (u 186) :: (u 187) :: (u 188) :: (u 189) :: (u 190) :: (u 191) :: (u 192) :: (u 193) :: (u 194) :: (u 195) :: (u 196) :: (u 197) :: (u 198) :: (u 199) :: (u 200) :: (u 201) :: (u 202) :: (u 203) :: (u 204) :: (u 205) :: (u 206) :: (u 207) :: (u 208) :: (u 209) :: (u 210) :: (u 211) :: (u 212) :: (u 213) :: (u 214) :: (u 215) :: (u 216) :: (u 217) :: (u 218) :: (u 219) :: (u 220) :: (u 221) :: (u 222) :: (u 223) :: []), defers := [] } wr := by
  obtain ⟨b, off, vs, hae, hSb, hvl, hcc, ka, kc, rfl, hI⟩ := RowIn.kept FIt_keeps c.hes st.lies.mem i hi
  obtain ⟨e, he⟩ : ∃ e, c.u.es[i] = e := ⟨_, rfl⟩
  have hxsl := c.xsl hi
  rw [he] at hI hcc hxsl
  have x0 : wr.cell? ⟨b, off + i * 3, none⟩ = some (.int .i64 e.k) := hcc 0 (by simp)
  have x1 : wr.cell? ⟨b, off + i * 3 + 1, none⟩ = some (.string e.s) := hcc 1 (by simp)
  have x2 : wr.cell? ⟨b, off + i * 3 + 2, none⟩ = some (.slice ka e.xs.length kc) := hcc 2 (by simp)
  have p0 : wr.cell? ⟨c.w.heap.size, 0, none⟩ = some (.slice (some ⟨b, off, none⟩) c.u.es.length c.ces) := by
    rw [cell_row st.lies.par (j := 0) (by simp [Ctx.cells])]
    simp [Ctx.cells, hae]
  have hsz := st.lies.size
  have hbw : Below wr.heap.size wr (wr.alloc (.cells #[.int .i64 e.k, .string e.s, .slice ka e.xs.length kc] 49)) := (Below.refl _ _).alloc (Nat.le_refl _) _
  have hK := heap_alloc_new wr (.cells #[.int .i64 e.k, .string e.s, .slice ka e.xs.length kc] 49)
  have hI1 := hI.kept (Same.below (fun q hq => Nat.lt_of_lt_of_le (c.hS q hq) st.lies.below.size) hbw)
  have hL1 := st.lies.go hbw
  have hrl : (refs (c.u.es.take i)).length ≤ 1048576 := refs_len _ (by have := wsum_take_le It.wt c.u.es i; have := c.esw; omega)
  have hnn := c.few
  obtain ⟨w', hw'⟩ : ∃ w', wr.alloc (.cells #[.int .i64 e.k, .string e.s, .slice ka e.xs.length kc] 49) = w' := ⟨_, rfl⟩
  have hsz' : w'.heap.size = wr.heap.size + 1 := by rw [← hw']; simp
  rw [hw'] at hbw hK hI1 hL1
  have HW := Lib.hid hw'
  have HK := Lib.hid hK
  have HI1 := Lib.hid hI1
  have HL1 := Lib.hid hL1
  have HRET := Lib.hid hret
  have HST := Lib.hid st
  have HCC := Lib.hid hcc
  have HHE := Lib.hid he
  have HHAE := Lib.hid hae
  clear hcc hI hbw hK hI1 hL1 hret st hvl hSb hw' he hae
  unfold expBody
  conv => arg 2; whnf
  go_wp2
  rw [HW.out]
  change Code.wp Tryz.prog (Code.loop kidBody) _ _ _
  refine kid_loop_at _ c i wr.heap.size hi hsz e ka kc HHE.out (refs (c.u.es.take i)) hrl w' HK.out HI1.out (by omega) _ ?_ ?_ HL1.out.below HL1.out.used rfl
  · intro a w1 hng hb hd h3
    exact HRET.out a w1 hng hb hd h3
  · intro u' w'' hks
    have hL2 : Lies c (cnts c.u.es.length (refs (c.u.es.take i) ++ e.xs)) (txts c.u.es i ++ List.replicate (c.u.es.length - i) (⟨#[]⟩ : BA)) w'' := HL1.out.bump hks.but (by rw [hks.used, List.take_length])
    have hkid : ∀ x ∈ c.u.es[i].xs, 0 ≤ x ∧ x < (i : Int) := by rw [HHE.out]; intro x hx; exact hks.ok x (by rw [List.take_length]; exact hx)
    have kE := (hks.but.other wr.heap.size (by omega)).trans HK.out
    have hI2 := HI1.out.kept (hks.but.same (fun h => by have := c.hS _ h; omega))
    have hsz2 := hks.but.size
    have HKID := Lib.hid hkid
    have HKE := Lib.hid kE
    have HL2 := Lib.hid hL2
    have HI2 := Lib.hid hI2
    have d0 := cell_of_row _ wr.heap.size 0 _ _ _ kE
    have d1 := cell_of_row _ wr.heap.size 1 _ _ _ kE
    have d2 := cell_of_row _ wr.heap.size 2 _ _ _ kE
    simp only [List.getElem?_toArray, List.getElem?_cons_zero, List.getElem?_cons_succ] at d0 d1 d2
    have ho : w''.cell? ⟨c.w.heap.size + 2, i, none⟩ = some (.string ⟨#[]⟩) := by
      have hlen : i < (txtCells (txts c.u.es i ++ List.replicate (c.u.es.length - i) (⟨#[]⟩ : BA))).length := by simp [txtCells, txts_length]; omega
      rw [cell_row hL2.outs hlen]
      simp [txtCells, List.getElem_append_right, txts_length]
    have hfo : w''.frozen? ⟨c.w.heap.size + 2, i, none⟩ = false := by simp [World.frozen?, hL2.outs]
    have hfin : ∀ s : BA, s = expTxt c.u.es (txts c.u.es i) c.u.es[i] → kindOk c.u.es[i] = true → s.size ≤ 3000 → ExpSt c (i + 1) (w''.setCell ⟨c.w.heap.size + 2, i, none⟩ (.string s)) := by
      intro s hs hk h3
      subst hs
      refine HST.out.next hi HKID.out hk h3 ?_
      have hbt := But.set (c.w.heap.size + 2) i w'' (.string (expTxt c.u.es (txts c.u.es i) c.u.es[i]))
      rw [HHE.out] at hbt ⊢
      exact ⟨(hbt.other _ (by omega)).trans HL2.out.par, (hbt.other _ (by omega)).trans HL2.out.used, by rw [set_row HL2.out.outs, txtCells_set], hbt.below HL2.out.below (by omega)⟩
    have HFIN := Lib.hid hfin
    have hrt : ∀ a : Act, ¬ c.good → a.defers = [] → a.tmps.getD 3 undef = .bool false → Q0 .ret a w'' := fun a hng h1 h2 => HRET.out a w'' hng HL2.out.below h1 h2
    have HRT := Lib.hid hrt
    clear hL2 hkid kE hI2 hfin hrt hks
    rename_i K hKK
    refine hKK _ _ ?_
    have hek : e.k = 6 := by rw [← HHE.out]; exact hk
    rw [hek] at d0
    rw [HHE.out] at HFIN HKID
    by_cases h2 : e.xs.length = 2
    · obtain ⟨x, y, hxy⟩ : ∃ x y, e.xs = [x, y] := by
        rcases hx : e.xs with _ | ⟨x, _ | ⟨y, _ | _⟩⟩ <;> rw [hx] at h2 <;> simp at h2
        exact ⟨x, y, rfl⟩
      have htx : expTxt c.u.es (txts c.u.es i) e = side c.u.es (txts c.u.es i) x ++ ⟨#[32, 45, 32]⟩ ++ side c.u.es (txts c.u.es i) y := by simp [expTxt, hek, isSum, hxy, signTxt]
      have hkt : kindOk e = true := by simp [kindOk, hek, isSum, hxy]
      have hne : ((e.xs.length : Int) != 2) = false := by rw [h2]; rfl
      have hbx := HKID.out x (by rw [hxy]; simp)
      have hby := HKID.out y (by rw [hxy]; simp)
      have hng : ∀ s : BA, s = side c.u.es (txts c.u.es i) x ++ ⟨#[32, 45, 32]⟩ ++ side c.u.es (txts c.u.es i) y → ¬ s.size ≤ 3000 → ¬ c.good := fun s hs h3 g => h3 (by have := Ctx.good_short g hi; rw [HHE.out, htx] at this; rw [hs]; exact this)
      have ssx := side_size c.u.es (txts c.u.es i) HST.out.short x
      have ssy := side_size c.u.es (txts c.u.es i) HST.out.short y
      obtain ⟨W1, hW1⟩ : ∃ W1, w''.alloc (.cells #[.string ⟨#[32, 43, 32]⟩, .string ⟨#[32, 45, 32]⟩, .string ⟨#[32, 42, 32]⟩] 9) = W1 := ⟨_, rfl⟩
      have hbW : Below w''.heap.size w'' W1 := by rw [← hW1]; exact (Below.refl _ _).alloc (Nat.le_refl _) _
      have kS : W1.heap[w''.heap.size]? = some (.cells #[.string ⟨#[32, 43, 32]⟩, .string ⟨#[32, 45, 32]⟩, .string ⟨#[32, 42, 32]⟩] 9 (0, 0)) := by rw [← hW1]; exact heap_alloc_new w'' _
      have s0 := cell_of_row _ w''.heap.size 0 _ _ _ kS
      have s1 := cell_of_row _ w''.heap.size 1 _ _ _ kS
      have s2 := cell_of_row _ w''.heap.size 2 _ _ _ kS
      simp only [List.getElem?_toArray, List.getElem?_cons_zero, List.getElem?_cons_succ] at s0 s1 s2
      have hLW := HL2.out.go hbW
      have HS1 := Lib.hid (fun (W : World) (hW : Below W1.heap.size W1 W) => side_at c i hi _ W (hLW.go hW) HST.out.short x hbx.1 hbx.2)
      have HS2 := Lib.hid (fun (W : World) (hW : Below W1.heap.size W1 W) => side_at c i hi _ W (hLW.go hW) HST.out.short y hby.1 hby.2)
      obtain ⟨b3, off3, hka, hSb3, hxx⟩ := (HI2.out.kept (Same.below (fun q hq => by have := c.hS q hq; omega) hbW)) 0 (by omega)
      obtain ⟨b3', off3', hka', _, hyy⟩ := (HI2.out.kept (Same.below (fun q hq => by have := c.hS q hq; omega) hbW)) 1 (by omega)
      obtain ⟨rfl, rfl⟩ : b3 = b3' ∧ off3 = off3' := by rw [hka] at hka'; simpa using hka'
      simp only [hxy, List.getElem_cons_zero, List.getElem_cons_succ, Nat.add_zero] at hxx hyy
      have kE1 := (hbW.block _ (lt_of_block HKE.out)).trans HKE.out
      have q0 := cell_of_row _ wr.heap.size 0 _ _ _ kE1
      have q1 := cell_of_row _ wr.heap.size 1 _ _ _ kE1
      have q2 := cell_of_row _ wr.heap.size 2 _ _ _ kE1
      simp only [List.getElem?_toArray, List.getElem?_cons_zero, List.getElem?_cons_succ] at q0 q1 q2
      rw [hek] at q0
      rw [hka, h2] at q2 d2
      have r0 := cell_of_row _ c.w.heap.size 0 _ _ _ hLW.par
      have r1 := cell_of_row _ c.w.heap.size 1 _ _ _ hLW.par
      have r2 := cell_of_row _ c.w.heap.size 2 _ _ _ hLW.par
      have r3 := cell_of_row _ c.w.heap.size 3 _ _ _ hLW.par
      have r4 := cell_of_row _ c.w.heap.size 4 _ _ _ hLW.par
      simp only [Ctx.cells, List.getElem?_toArray, List.getElem?_cons_zero, List.getElem?_cons_succ] at r0 r1 r2 r3 r4
      have hg1 : c.w.heap.size < W1.heap.size := lt_of_block hLW.par
      have hg2 : wr.heap.size < W1.heap.size := lt_of_block kE1
      have hg3 : b3 < W1.heap.size := by have := c.hS _ hSb3; omega
      have hB0 : Below W1.heap.size W1 W1 := Below.refl _ _
      have hfin2 : ∀ wz, Below W1.heap.size W1 wz → ∀ s : BA, s = side c.u.es (txts c.u.es i) x ++ ⟨#[32, 45, 32]⟩ ++ side c.u.es (txts c.u.es i) y → s.size ≤ 3000 → ExpSt c (i + 1) (wz.setCell ⟨c.w.heap.size + 2, i, none⟩ (.string s)) := by
        intro wz hwz s hs h3
        have hL3 := hLW.go hwz
        have hbt := But.set (c.w.heap.size + 2) i wz (.string s)
        refine HST.out.next hi (by rw [HHE.out]; exact HKID.out) (by rw [HHE.out]; exact hkt) (by rw [HHE.out, htx, ← hs]; exact h3) ?_
        rw [HHE.out, htx, ← hs]
        exact ⟨(hbt.other _ (by omega)).trans hL3.par, (hbt.other _ (by omega)).trans hL3.used, by rw [set_row hL3.outs, txtCells_set], hbt.below hL3.below (by omega)⟩
      have HFIN2 := Lib.hid hfin2
      have HNG := Lib.hid hng
      have hro : ∀ wz, Below W1.heap.size W1 wz → wz.cell? ⟨c.w.heap.size + 2, i, none⟩ = some (.string ⟨#[]⟩) ∧ wz.frozen? ⟨c.w.heap.size + 2, i, none⟩ = false ∧ (∀ a : Act, ¬ c.good → a.defers = [] → a.tmps.getD 3 undef = .bool false → Q0 .ret a wz) := by
        intro wz hwz
        have hL3 := hLW.go hwz
        refine ⟨?_, by simp [World.frozen?, hL3.outs], fun a hng h1 h2 => HRET.out a wz hng hL3.below h1 h2⟩
        have hlen : i < (txtCells (txts c.u.es i ++ List.replicate (c.u.es.length - i) (⟨#[]⟩ : BA))).length := by simp [txtCells, txts_length]; omega
        rw [cell_row hL3.outs hlen]
        simp [txtCells, List.getElem_append_right, txts_length]
      have HRO := Lib.hid hro
      clear hfin2 hng hro hLW kE1 kS HFIN HRT htx hkt hbW HHE HKE HI2 HI1 HL1 HL2 HKID HST hka' HCC HHAE HK HW hbx hby hxy x0 x1 x2 p0 ho hfo HRET h2 hka hsz' hsz2
      generalize side c.u.es (txts c.u.es i) x = sx at *
      generalize side c.u.es (txts c.u.es i) y = sy at *
      have hc1 : ¬ (9223372036854775807 < sx.size + 3) := by omega
      have hc2 : ¬ (9223372036854775807 < sx.size + 3 + sy.size) := by omega
      go_wp2
      go_region_held3 (fun w' => w'.cell? ⟨c.w.heap.size, 0, none⟩ = some (.slice c.aes c.u.es.length c.ces) ∧ w'.cell? ⟨c.w.heap.size, 1, none⟩ = some (.int .i64 c.u.hd.k) ∧ w'.cell? ⟨c.w.heap.size, 2, none⟩ = some (.string c.u.hd.s) ∧ w'.cell? ⟨c.w.heap.size, 3, none⟩ = some (.slice c.ahd c.u.hd.xs.length c.chd) ∧ w'.cell? ⟨c.w.heap.size, 4, none⟩ = some (.slice c.abd c.u.bd.length c.cbd) ∧ w'.cell? ⟨wr.heap.size, 2, none⟩ = some (.slice (some ⟨b3, off3, none⟩) 2 kc) ∧ w'.cell? ⟨b3, off3, none⟩ = some (.int .i64 x) ∧ w'.cell? ⟨b3, off3 + 1, none⟩ = some (.int .i64 y) ∧ Below W1.heap.size W1 w')
        (refine ⟨?_, ?_, ?_, ?_, ?_, ?_, ?_, ?_, ?_⟩ <;> (first | assumption | (simp [*]; done) | (apply Below.drew; assumption)))
        (first
          | (go_at_call_of 64 (Value.int IntKind.i64 x)
             refine (HS1.out _ (by first | assumption | (apply Below.drew; assumption))).mono ?_
             rintro e7 w7 ⟨rfl, hb7⟩
             have hb8 : Below W1.heap.size W1 w7 := below_keep (by first | assumption | (apply Below.drew; assumption)) hb7
             have z0 := (hb8.cell (p := ⟨c.w.heap.size, 0, none⟩) hg1).trans r0
             have z1 := (hb8.cell (p := ⟨c.w.heap.size, 1, none⟩) hg1).trans r1
             have z2 := (hb8.cell (p := ⟨c.w.heap.size, 2, none⟩) hg1).trans r2
             have z3 := (hb8.cell (p := ⟨c.w.heap.size, 3, none⟩) hg1).trans r3
             have z4 := (hb8.cell (p := ⟨c.w.heap.size, 4, none⟩) hg1).trans r4
             have z5 := (hb8.cell (p := ⟨wr.heap.size, 2, none⟩) hg2).trans q2
             have z6 := (hb8.cell (p := ⟨b3, off3, none⟩) hg3).trans hxx
             have z7 := (hb8.cell (p := ⟨b3, off3 + 1, none⟩) hg3).trans hyy
             clear hb7)
          | (go_at_call_of 64 (Value.int IntKind.i64 y)
             refine (HS2.out _ (by first | assumption | (apply Below.drew; assumption))).mono ?_
             rintro e7 w7 ⟨rfl, hb7⟩
             have hb8 : Below W1.heap.size W1 w7 := below_keep (by first | assumption | (apply Below.drew; assumption)) hb7
             have z0 := (hb8.cell (p := ⟨c.w.heap.size, 0, none⟩) hg1).trans r0
             have z1 := (hb8.cell (p := ⟨c.w.heap.size, 1, none⟩) hg1).trans r1
             have z2 := (hb8.cell (p := ⟨c.w.heap.size, 2, none⟩) hg1).trans r2
             have z3 := (hb8.cell (p := ⟨c.w.heap.size, 3, none⟩) hg1).trans r3
             have z4 := (hb8.cell (p := ⟨c.w.heap.size, 4, none⟩) hg1).trans r4
             have z5 := (hb8.cell (p := ⟨wr.heap.size, 2, none⟩) hg2).trans q2
             have z6 := (hb8.cell (p := ⟨b3, off3, none⟩) hg3).trans hxx
             have z7 := (hb8.cell (p := ⟨b3, off3 + 1, none⟩) hg3).trans hyy
             clear hb7))
      have hBz := hb8
      have q0' := (hBz.cell (p := ⟨wr.heap.size, 0, none⟩) hg2).trans q0
      have q2' := (hBz.cell (p := ⟨wr.heap.size, 2, none⟩) hg2).trans q2
      obtain ⟨ho, hfo, hrt⟩ := HRO.out _ hBz
      have hsl : (sx ++ (⟨#[32, 45, 32]⟩ : BA) ++ sy).size = sx.size + 3 + sy.size := by rw [ByteArray.size_append, ByteArray.size_append]; rfl
      by_cases h3 : sx.size + 3 + sy.size ≤ 3000
      · have HN := Lib.hid (HFIN2.out _ hBz (sx ++ ⟨#[32, 45, 32]⟩ ++ sy) rfl (by rw [hsl]; exact h3))
        have hd1 : decide ((3000 : Int) < (sx.size : Int) + 3 + (sy.size : Int)) = false := decide_eq_false (by omega)
        have hd2 : decide (3000 < sx.size + 3 + sy.size) = false := decide_eq_false (by omega)
        have hd3 : ¬ 3000 < sx.size + 3 + sy.size := by omega
        clear hrt HFIN2 HNG HRO HS1 HS2
        go_wp2
        refine ⟨ExpI_of (i := i + 1) _ rfl (by go_num) HN.out, ?_⟩
        show c.u.es.length - (intOf (.int .i64 _)).toNat < c.u.es.length - i
        simp [intOf]; omega
      · have HN := Lib.hid (fun a => hrt a (HNG.out (sx ++ ⟨#[32, 45, 32]⟩ ++ sy) rfl (by rw [hsl]; exact h3)))
        have hd1 : decide ((3000 : Int) < (sx.size : Int) + 3 + (sy.size : Int)) = true := decide_eq_true (by omega)
        have hd2 : decide (3000 < sx.size + 3 + sy.size) = true := decide_eq_true (by omega)
        have hd3 : 3000 < sx.size + 3 + sy.size := by omega
        clear hrt HFIN2 HNG HRO HS1 HS2
        go_wp2
        exact HN.out _ rfl rfl
    · have hne : ((e.xs.length : Int) != 2) = true := by simp; omega
      have hng : ¬ c.good := fun g => by
        have := g.1.kind c.u.es[i] (List.getElem_mem hi)
        rw [HHE.out] at this
        simp [kindOk, hek, isSum] at this
        omega
      have HN := Lib.hid (fun a => HRT.out a hng)
      clear HFIN HRT hng
      go_wp2
      exact HN.out _ rfl rfl


set_option maxRecDepth 1000000 in
set_option maxHeartbeats 4000000 in
theorem exps_mul (c : Ctx) (Q0 : Exit → Act → World → Prop) (hret : RetF c Q0) (u : Nat → Value) (i : Nat) (wr : World) (st : ExpSt c i wr) (hi : i < c.u.es.length) (hk : c.u.es[i].k = 7) :
    Code.wp Tryz.prog expBody (Exit.then (fun a' wx => ExpI c a' wx ∧ expMu c a' < c.u.es.length - i) Q0) { tmps := List.toArray ((c.val) :: (.pointer (some ⟨c.w.heap.size, 0, none⟩)) :: (u 2) :: (u 3) :: (.slice (some ⟨c.w.heap.size + 1, 0, none⟩) c.u.es.length c.u.es.length) :: (.slice (some ⟨c.w.heap.size + 2, 0, none⟩) c.u.es.length c.u.es.length) :: (.int .i64 (i : Int)) :: (u 7) :: (u 8) :: (u 9) :: (u 10) :: (u 11) :: (u 12) :: (u 13) :: (u 14) :: (u 15) :: (u 16) :: (u 17) :: (u 18) :: (u 19) :: (u 20) :: (u 21) :: (u 22) :: (u 23) :: (u 24) :: (u 25) :: (u 26) :: (u 27) :: (u 28) :: (u 29) :: (u 30) :: (u 31) :: (u 32) :: (u 33) :: (u 34) :: (u 35) :: (u 36) :: (u 37) :: (u 38) :: (u 39) :: (u 40) :: (u 41) :: (u 42) :: (u 43) :: (u 44) :: (u 45) :: (u 46) :: (u 47) :: (u 48) :: (u 49) :: (u 50) :: (u 51) :: (u 52) :: (u 53) :: (u 54) :: (u 55) :: (u 56) :: (u 57) :: (u 58) :: (u 59) :: (u 60) :: (u 61) :: (u 62) :: (u 63) :: (u 64) :: (u 65) :: (u 66) :: (u 67) :: (u 68) :: (u 69) :: (u 70) :: (u 71) :: (u 72) :: (u 73) :: (u 74) :: (u 75) :: (u 76) :: (u 77) :: (u 78) :: (u 79) :: (u 80) :: (u 81) :: (u 82) :: (u 83) :: (u 84) :: (u 85) :: (u 86) :: (u 87) :: (u 88) :: (u 89) :: (u 90) :: (u 91) :: (u 92) :: (u 93) :: (u 94) :: (u 95) :: (u 96) :: (u 97) :: (u 98) :: (u 99) :: (u 100) :: (u 101) :: (u 102) :: (u 103) :: (u 104) :: (u 105) :: (u 106) :: (u 107) :: (u 108) :: (u 109) :: (u 110) :: (u 111) :: (u 112) :: (u 113) :: (u 114) :: (u 115) :: (u 116) :: (u 117) :: (u 118) :: (u 119) :: (u 120) :: (u 121) :: (u 122) :: (u 123) :: (u 124) :: (u 125) :: (u 126) :: (u 127) :: (u 128) :: (u 129) :: (u 130) :: (u 131) :: (u 132) :: (u 133) :: (u 134) :: (u 135) :: (u 136) :: (u 137) :: (u 138) :: (u 139) :: (u 140) :: (u 141) :: (u 142) :: (u 143) :: (u 144) :: (u 145) :: (u 146) :: (u 147) :: (u 148) :: (u 149) :: (u 150) :: (u 151) :: (u 152) :: (u 153) :: (u 154) :: (u 155) :: (u 156) :: (u 157) :: (u 158) :: (u 159) :: (u 160) :: (u 161) :: (u 162) :: (u 163) :: (u 164) :: (u 165) :: (u 166) :: (u 167) :: (u 168) :: (u 169) :: (u 170) :: (u 171) :: (u 172) :: (u 173) :: (u 174) :: (u 175) :: (u 176) :: (u 177) :: (u 178) :: (u 179) :: (u 180) :: (u 181) :: (u 182) :: (u 183) :: (u 184) :: (u 185) :: (u 186) :: (u 187) :: (u 188) :: (u 189) :: (u 190) :: (u 191) :: (u 192) :: (u 193) :: (u 194) :: (u 195) :: (u 196) :: (u 197) :: (u 198) :: (u 199) :: (u 200) :: (u 201) :: (u 202) :: (u 203) :: (u 204) :: (u 205) :: (u 206) :: (u 207) :: (u 208) :: (u 209) :: (u 210) :: (u 211) :: (u 212) :: (u 213) :: (u 214) :: (u 215) :: (u 216) :: (u 217) :: (u 218) :: (u 219) :: (u 220) :: (u 221) :: (u 222) :: (u 223) :: []), defers := [] } wr := by
  obtain ⟨b, off, vs, hae, hSb, hvl, hcc, ka, kc, rfl, hI⟩ := RowIn.kept FIt_keeps c.hes st.lies.mem i hi
  obtain ⟨e, he⟩ : ∃ e, c.u.es[i] = e := ⟨_, rfl⟩
  have hxsl := c.xsl hi
  rw [he] at hI hcc hxsl
  have x0 : wr.cell? ⟨b, off + i * 3, none⟩ = some (.int .i64 e.k) := hcc 0 (by simp)
  have x1 : wr.cell? ⟨b, off + i * 3 + 1, none⟩ = some (.string e.s) := hcc 1 (by simp)
  have x2 : wr.cell? ⟨b, off + i * 3 + 2, none⟩ = some (.slice ka e.xs.length kc) := hcc 2 (by simp)
  have p0 : wr.cell? ⟨c.w.heap.size, 0, none⟩ = some (.slice (some ⟨b, off, none⟩) c.u.es.length c.ces) := by
    rw [cell_row st.lies.par (j := 0) (by simp [Ctx.cells])]
    simp [Ctx.cells, hae]
  have hsz := st.lies.size
  have hbw : Below wr.heap.size wr (wr.alloc (.cells #[.int .i64 e.k, .string e.s, .slice ka e.xs.length kc] 49)) := (Below.refl _ _).alloc (Nat.le_refl _) _
  have hK := heap_alloc_new wr (.cells #[.int .i64 e.k, .string e.s, .slice ka e.xs.length kc] 49)
  have hI1 := hI.kept (Same.below (fun q hq => Nat.lt_of_lt_of_le (c.hS q hq) st.lies.below.size) hbw)
  have hL1 := st.lies.go hbw
  have hrl : (refs (c.u.es.take i)).length ≤ 1048576 := refs_len _ (by have := wsum_take_le It.wt c.u.es i; have := c.esw; omega)
  have hnn := c.few
  obtain ⟨w', hw'⟩ : ∃ w', wr.alloc (.cells #[.int .i64 e.k, .string e.s, .slice ka e.xs.length kc] 49) = w' := ⟨_, rfl⟩
  have hsz' : w'.heap.size = wr.heap.size + 1 := by rw [← hw']; simp
  rw [hw'] at hbw hK hI1 hL1
  have HW := Lib.hid hw'
  have HK := Lib.hid hK
  have HI1 := Lib.hid hI1
  have HL1 := Lib.hid hL1
  have HRET := Lib.hid hret
  have HST := Lib.hid st
  have HCC := Lib.hid hcc
  have HHE := Lib.hid he
  have HHAE := Lib.hid hae
  clear hcc hI hbw hK hI1 hL1 hret st hvl hSb hw' he hae
  unfold expBody
  conv => arg 2; whnf
  go_wp2
  rw [HW.out]
  change Code.wp Tryz.prog (Code.loop kidBody) _ _ _
  refine kid_loop_at _ c i wr.heap.size hi hsz e ka kc HHE.out (refs (c.u.es.take i)) hrl w' HK.out HI1.out (by omega) _ ?_ ?_ HL1.out.below HL1.out.used rfl
  · intro a w1 hng hb hd h3
    exact HRET.out a w1 hng hb hd h3
  · intro u' w'' hks
    have hL2 : Lies c (cnts c.u.es.length (refs (c.u.es.take i) ++ e.xs)) (txts c.u.es i ++ List.replicate (c.u.es.length - i) (⟨#[]⟩ : BA)) w'' := HL1.out.bump hks.but (by rw [hks.used, List.take_length])
    have hkid : ∀ x ∈ c.u.es[i].xs, 0 ≤ x ∧ x < (i : Int) := by rw [HHE.out]; intro x hx; exact hks.ok x (by rw [List.take_length]; exact hx)
    have kE := (hks.but.other wr.heap.size (by omega)).trans HK.out
    have hI2 := HI1.out.kept (hks.but.same (fun h => by have := c.hS _ h; omega))
    have hsz2 := hks.but.size
    have HKID := Lib.hid hkid
    have HKE := Lib.hid kE
    have HL2 := Lib.hid hL2
    have HI2 := Lib.hid hI2
    have d0 := cell_of_row _ wr.heap.size 0 _ _ _ kE
    have d1 := cell_of_row _ wr.heap.size 1 _ _ _ kE
    have d2 := cell_of_row _ wr.heap.size 2 _ _ _ kE
    simp only [List.getElem?_toArray, List.getElem?_cons_zero, List.getElem?_cons_succ] at d0 d1 d2
    have ho : w''.cell? ⟨c.w.heap.size + 2, i, none⟩ = some (.string ⟨#[]⟩) := by
      have hlen : i < (txtCells (txts c.u.es i ++ List.replicate (c.u.es.length - i) (⟨#[]⟩ : BA))).length := by simp [txtCells, txts_length]; omega
      rw [cell_row hL2.outs hlen]
      simp [txtCells, List.getElem_append_right, txts_length]
    have hfo : w''.frozen? ⟨c.w.heap.size + 2, i, none⟩ = false := by simp [World.frozen?, hL2.outs]
    have hfin : ∀ s : BA, s = expTxt c.u.es (txts c.u.es i) c.u.es[i] → kindOk c.u.es[i] = true → s.size ≤ 3000 → ExpSt c (i + 1) (w''.setCell ⟨c.w.heap.size + 2, i, none⟩ (.string s)) := by
      intro s hs hk h3
      subst hs
      refine HST.out.next hi HKID.out hk h3 ?_
      have hbt := But.set (c.w.heap.size + 2) i w'' (.string (expTxt c.u.es (txts c.u.es i) c.u.es[i]))
      rw [HHE.out] at hbt ⊢
      exact ⟨(hbt.other _ (by omega)).trans HL2.out.par, (hbt.other _ (by omega)).trans HL2.out.used, by rw [set_row HL2.out.outs, txtCells_set], hbt.below HL2.out.below (by omega)⟩
    have HFIN := Lib.hid hfin
    have hrt : ∀ a : Act, ¬ c.good → a.defers = [] → a.tmps.getD 3 undef = .bool false → Q0 .ret a w'' := fun a hng h1 h2 => HRET.out a w'' hng HL2.out.below h1 h2
    have HRT := Lib.hid hrt
    clear hL2 hkid kE hI2 hfin hrt hks
    rename_i K hKK
    refine hKK _ _ ?_
    have hek : e.k = 7 := by rw [← HHE.out]; exact hk
    rw [hek] at d0
    rw [HHE.out] at HFIN HKID
    by_cases h2 : e.xs.length = 2
    · obtain ⟨x, y, hxy⟩ : ∃ x y, e.xs = [x, y] := by
        rcases hx : e.xs with _ | ⟨x, _ | ⟨y, _ | _⟩⟩ <;> rw [hx] at h2 <;> simp at h2
        exact ⟨x, y, rfl⟩
      have htx : expTxt c.u.es (txts c.u.es i) e = side c.u.es (txts c.u.es i) x ++ ⟨#[32, 42, 32]⟩ ++ side c.u.es (txts c.u.es i) y := by simp [expTxt, hek, isSum, hxy, signTxt]
      have hkt : kindOk e = true := by simp [kindOk, hek, isSum, hxy]
      have hne : ((e.xs.length : Int) != 2) = false := by rw [h2]; rfl
      have hbx := HKID.out x (by rw [hxy]; simp)
      have hby := HKID.out y (by rw [hxy]; simp)
      have hng : ∀ s : BA, s = side c.u.es (txts c.u.es i) x ++ ⟨#[32, 42, 32]⟩ ++ side c.u.es (txts c.u.es i) y → ¬ s.size ≤ 3000 → ¬ c.good := fun s hs h3 g => h3 (by have := Ctx.good_short g hi; rw [HHE.out, htx] at this; rw [hs]; exact this)
      have ssx := side_size c.u.es (txts c.u.es i) HST.out.short x
      have ssy := side_size c.u.es (txts c.u.es i) HST.out.short y
      obtain ⟨W1, hW1⟩ : ∃ W1, w''.alloc (.cells #[.string ⟨#[32, 43, 32]⟩, .string ⟨#[32, 45, 32]⟩, .string ⟨#[32, 42, 32]⟩] 9) = W1 := ⟨_, rfl⟩
      have hbW : Below w''.heap.size w'' W1 := by rw [← hW1]; exact (Below.refl _ _).alloc (Nat.le_refl _) _
      have kS : W1.heap[w''.heap.size]? = some (.cells #[.string ⟨#[32, 43, 32]⟩, .string ⟨#[32, 45, 32]⟩, .string ⟨#[32, 42, 32]⟩] 9 (0, 0)) := by rw [← hW1]; exact heap_alloc_new w'' _
      have s0 := cell_of_row _ w''.heap.size 0 _ _ _ kS
      have s1 := cell_of_row _ w''.heap.size 1 _ _ _ kS
      have s2 := cell_of_row _ w''.heap.size 2 _ _ _ kS
      simp only [List.getElem?_toArray, List.getElem?_cons_zero, List.getElem?_cons_succ] at s0 s1 s2
      have hLW := HL2.out.go hbW
      have HS1 := Lib.hid (fun (W : World) (hW : Below W1.heap.size W1 W) => side_at c i hi _ W (hLW.go hW) HST.out.short x hbx.1 hbx.2)
      have HS2 := Lib.hid (fun (W : World) (hW : Below W1.heap.size W1 W) => side_at c i hi _ W (hLW.go hW) HST.out.short y hby.1 hby.2)
      obtain ⟨b3, off3, hka, hSb3, hxx⟩ := (HI2.out.kept (Same.below (fun q hq => by have := c.hS q hq; omega) hbW)) 0 (by omega)
      obtain ⟨b3', off3', hka', _, hyy⟩ := (HI2.out.kept (Same.below (fun q hq => by have := c.hS q hq; omega) hbW)) 1 (by omega)
      obtain ⟨rfl, rfl⟩ : b3 = b3' ∧ off3 = off3' := by rw [hka] at hka'; simpa using hka'
      simp only [hxy, List.getElem_cons_zero, List.getElem_cons_succ, Nat.add_zero] at hxx hyy
      have kE1 := (hbW.block _ (lt_of_block HKE.out)).trans HKE.out
      have q0 := cell_of_row _ wr.heap.size 0 _ _ _ kE1
      have q1 := cell_of_row _ wr.heap.size 1 _ _ _ kE1
      have q2 := cell_of_row _ wr.heap.size 2 _ _ _ kE1
      simp only [List.getElem?_toArray, List.getElem?_cons_zero, List.getElem?_cons_succ] at q0 q1 q2
      rw [hek] at q0
      rw [hka, h2] at q2 d2
      have r0 := cell_of_row _ c.w.heap.size 0 _ _ _ hLW.par
      have r1 := cell_of_row _ c.w.heap.size 1 _ _ _ hLW.par
      have r2 := cell_of_row _ c.w.heap.size 2 _ _ _ hLW.par
      have r3 := cell_of_row _ c.w.heap.size 3 _ _ _ hLW.par
      have r4 := cell_of_row _ c.w.heap.size 4 _ _ _ hLW.par
      simp only [Ctx.cells, List.getElem?_toArray, List.getElem?_cons_zero, List.getElem?_cons_succ] at r0 r1 r2 r3 r4
      have hg1 : c.w.heap.size < W1.heap.size := lt_of_block hLW.par
      have hg2 : wr.heap.size < W1.heap.size := lt_of_block kE1
      have hg3 : b3 < W1.heap.size := by have := c.hS _ hSb3; omega
      have hB0 : Below W1.heap.size W1 W1 := Below.refl _ _
      have hfin2 : ∀ wz, Below W1.heap.size W1 wz → ∀ s : BA, s = side c.u.es (txts c.u.es i) x ++ ⟨#[32, 42, 32]⟩ ++ side c.u.es (txts c.u.es i) y → s.size ≤ 3000 → ExpSt c (i + 1) (wz.setCell ⟨c.w.heap.size + 2, i, none⟩ (.string s)) := by
        intro wz hwz s hs h3
        have hL3 := hLW.go hwz
        have hbt := But.set (c.w.heap.size + 2) i wz (.string s)
        refine HST.out.next hi (by rw [HHE.out]; exact HKID.out) (by rw [HHE.out]; exact hkt) (by rw [HHE.out, htx, ← hs]; exact h3) ?_
        rw [HHE.out, htx, ← hs]
        exact ⟨(hbt.other _ (by omega)).trans hL3.par, (hbt.other _ (by omega)).trans hL3.used, by rw [set_row hL3.outs, txtCells_set], hbt.below hL3.below (by omega)⟩
      have HFIN2 := Lib.hid hfin2
      have HNG := Lib.hid hng
      have hro : ∀ wz, Below W1.heap.size W1 wz → wz.cell? ⟨c.w.heap.size + 2, i, none⟩ = some (.string ⟨#[]⟩) ∧ wz.frozen? ⟨c.w.heap.size + 2, i, none⟩ = false ∧ (∀ a : Act, ¬ c.good → a.defers = [] → a.tmps.getD 3 undef = .bool false → Q0 .ret a wz) := by
        intro wz hwz
        have hL3 := hLW.go hwz
        refine ⟨?_, by simp [World.frozen?, hL3.outs], fun a hng h1 h2 => HRET.out a wz hng hL3.below h1 h2⟩
        have hlen : i < (txtCells (txts c.u.es i ++ List.replicate (c.u.es.length - i) (⟨#[]⟩ : BA))).length := by simp [txtCells, txts_length]; omega
        rw [cell_row hL3.outs hlen]
        simp [txtCells, List.getElem_append_right, txts_length]
      have HRO := Lib.hid hro
      clear hfin2 hng hro hLW kE1 kS HFIN HRT htx hkt hbW HHE HKE HI2 HI1 HL1 HL2 HKID HST hka' HCC HHAE HK HW hbx hby hxy x0 x1 x2 p0 ho hfo HRET h2 hka hsz' hsz2
      generalize side c.u.es (txts c.u.es i) x = sx at *
      generalize side c.u.es (txts c.u.es i) y = sy at *
      have hc1 : ¬ (9223372036854775807 < sx.size + 3) := by omega
      have hc2 : ¬ (9223372036854775807 < sx.size + 3 + sy.size) := by omega
      go_wp2
      go_region_held3 (fun w' => w'.cell? ⟨c.w.heap.size, 0, none⟩ = some (.slice c.aes c.u.es.length c.ces) ∧ w'.cell? ⟨c.w.heap.size, 1, none⟩ = some (.int .i64 c.u.hd.k) ∧ w'.cell? ⟨c.w.heap.size, 2, none⟩ = some (.string c.u.hd.s) ∧ w'.cell? ⟨c.w.heap.size, 3, none⟩ = some (.slice c.ahd c.u.hd.xs.length c.chd) ∧ w'.cell? ⟨c.w.heap.size, 4, none⟩ = some (.slice c.abd c.u.bd.length c.cbd) ∧ w'.cell? ⟨wr.heap.size, 2, none⟩ = some (.slice (some ⟨b3, off3, none⟩) 2 kc) ∧ w'.cell? ⟨b3, off3, none⟩ = some (.int .i64 x) ∧ w'.cell? ⟨b3, off3 + 1, none⟩ = some (.int .i64 y) ∧ Below W1.heap.size W1 w')
        (refine ⟨?_, ?_, ?_, ?_, ?_, ?_, ?_, ?_, ?_⟩ <;> (first | assumption | (simp [*]; done) | (apply Below.drew; assumption)))
        (first
          | (go_at_call_of 64 (Value.int IntKind.i64 x)
             refine (HS1.out _ (by first | assumption | (apply Below.drew; assumption))).mono ?_
             rintro e7 w7 ⟨rfl, hb7⟩
             have hb8 : Below W1.heap.size W1 w7 := below_keep (by first | assumption | (apply Below.drew; assumption)) hb7
             have z0 := (hb8.cell (p := ⟨c.w.heap.size, 0, none⟩) hg1).trans r0
             have z1 := (hb8.cell (p := ⟨c.w.heap.size, 1, none⟩) hg1).trans r1
             have z2 := (hb8.cell (p := ⟨c.w.heap.size, 2, none⟩) hg1).trans r2
             have z3 := (hb8.cell (p := ⟨c.w.heap.size, 3, none⟩) hg1).trans r3
             have z4 := (hb8.cell (p := ⟨c.w.heap.size, 4, none⟩) hg1).trans r4
             have z5 := (hb8.cell (p := ⟨wr.heap.size, 2, none⟩) hg2).trans q2
             have z6 := (hb8.cell (p := ⟨b3, off3, none⟩) hg3).trans hxx
             have z7 := (hb8.cell (p := ⟨b3, off3 + 1, none⟩) hg3).trans hyy
             clear hb7)
          | (go_at_call_of 64 (Value.int IntKind.i64 y)
             refine (HS2.out _ (by first | assumption | (apply Below.drew; assumption))).mono ?_
             rintro e7 w7 ⟨rfl, hb7⟩
             have hb8 : Below W1.heap.size W1 w7 := below_keep (by first | assumption | (apply Below.drew; assumption)) hb7
             have z0 := (hb8.cell (p := ⟨c.w.heap.size, 0, none⟩) hg1).trans r0
             have z1 := (hb8.cell (p := ⟨c.w.heap.size, 1, none⟩) hg1).trans r1
             have z2 := (hb8.cell (p := ⟨c.w.heap.size, 2, none⟩) hg1).trans r2
             have z3 := (hb8.cell (p := ⟨c.w.heap.size, 3, none⟩) hg1).trans r3
             have z4 := (hb8.cell (p := ⟨c.w.heap.size, 4, none⟩) hg1).trans r4
             have z5 := (hb8.cell (p := ⟨wr.heap.size, 2, none⟩) hg2).trans q2
             have z6 := (hb8.cell (p := ⟨b3, off3, none⟩) hg3).trans hxx
             have z7 := (hb8.cell (p := ⟨b3, off3 + 1, none⟩) hg3).trans hyy
             clear hb7))
      have hBz := hb8
      have q0' := (hBz.cell (p := ⟨wr.heap.size, 0, none⟩) hg2).trans q0
      have q2' := (hBz.cell (p := ⟨wr.heap.size, 2, none⟩) hg2).trans q2
      obtain ⟨ho, hfo, hrt⟩ := HRO.out _ hBz
      have hsl : (sx ++ (⟨#[32, 42, 32]⟩ : BA) ++ sy).size = sx.size + 3 + sy.size := by rw [ByteArray.size_append, ByteArray.size_append]; rfl
      by_cases h3 : sx.size + 3 + sy.size ≤ 3000
      · have HN := Lib.hid (HFIN2.out _ hBz (sx ++ ⟨#[32, 42, 32]⟩ ++ sy) rfl (by rw [hsl]; exact h3))
        have hd1 : decide ((3000 : Int) < (sx.size : Int) + 3 + (sy.size : Int)) = false := decide_eq_false (by omega)
        have hd2 : decide (3000 < sx.size + 3 + sy.size) = false := decide_eq_false (by omega)
        have hd3 : ¬ 3000 < sx.size + 3 + sy.size := by omega
        clear hrt HFIN2 HNG HRO HS1 HS2
        go_wp2
        refine ⟨ExpI_of (i := i + 1) _ rfl (by go_num) HN.out, ?_⟩
        show c.u.es.length - (intOf (.int .i64 _)).toNat < c.u.es.length - i
        simp [intOf]; omega
      · have HN := Lib.hid (fun a => hrt a (HNG.out (sx ++ ⟨#[32, 42, 32]⟩ ++ sy) rfl (by rw [hsl]; exact h3)))
        have hd1 : decide ((3000 : Int) < (sx.size : Int) + 3 + (sy.size : Int)) = true := decide_eq_true (by omega)
        have hd2 : decide (3000 < sx.size + 3 + sy.size) = true := decide_eq_true (by omega)
        have hd3 : 3000 < sx.size + 3 + sy.size := by omega
        clear hrt HFIN2 HNG HRO HS1 HS2
        go_wp2
        exact HN.out _ rfl rfl
    · have hne : ((e.xs.length : Int) != 2) = true := by simp; omega
      have hng : ¬ c.good := fun g => by
        have := g.1.kind c.u.es[i] (List.getElem_mem hi)
        rw [HHE.out] at this
        simp [kindOk, hek, isSum] at this
        omega
      have HN := Lib.hid (fun a => HRT.out a hng)
      clear HFIN HRT hng
      go_wp2
      exact HN.out _ rfl rfl


end Go.Proofs.YtilijbpbnlnhlaaGreat.Pr
