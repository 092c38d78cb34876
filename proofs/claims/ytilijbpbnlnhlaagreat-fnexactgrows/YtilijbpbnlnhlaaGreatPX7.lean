/-
  THE WALK over spec.l04Exps: its first loop, whole; the row of all literals.
-/
import Derived.Test.YtilijbpbnlnhlaaGreatPX3
import Derived.Test.YtilijbpbnlnhlaaGreatPX6
namespace Go.Proofs.YtilijbpbnlnhlaaGreat.Pr
open Go Go.RowKit Go.Maps Go.WideMaps

set_option maxRecDepth 1000000 in
theorem exps_loop_at (arr : Array Value) (c : Ctx) (w' : World) (Q0 : Exit → Act → World → Prop) (hret : RetF c Q0) (hend : ExpEnd c Q0) (st : ExpSt c 0 w') (ha : ({ tmps := arr, defers := [] } : Act) = { tmps := List.toArray ((c.val) :: (.pointer (some ⟨c.w.heap.size, 0, none⟩)) :: (arr.getD 2 undef) :: (arr.getD 3 undef) :: (.slice (some ⟨c.w.heap.size + 1, 0, none⟩) c.u.es.length c.u.es.length) :: (.slice (some ⟨c.w.heap.size + 2, 0, none⟩) c.u.es.length c.u.es.length) :: (.int .i64 0) :: (arr.getD 7 undef) :: (arr.getD 8 undef) :: (arr.getD 9 undef) :: (arr.getD 10 undef) :: (arr.getD 11 undef) :: (arr.getD 12 undef) :: (arr.getD 13 undef) :: (arr.getD 14 undef) :: (arr.getD 15 undef) :: (arr.getD 16 undef) :: (arr.getD 17 undef) :: (arr.getD 18 undef) :: (arr.getD 19 undef) :: (arr.getD 20 undef) :: (arr.getD 21 undef) :: (arr.getD 22 undef) :: (arr.getD 23 undef) :: (arr.getD 24 undef) :: (arr.getD 25 undef) :: (arr.getD 26 undef) :: (arr.getD 27 undef) :: (arr.getD 28 undef) :: (arr.getD 29 undef) :: (arr.getD 30 undef) :: (arr.getD 31 undef) :: (arr.getD 32 undef) :: (arr.getD 33 undef) :: (arr.getD 34 undef) :: (arr.getD 35 undef) :: (arr.getD 36 undef) :: (arr.getD 37 undef) :: (arr.getD 38 undef) :: (arr.getD 39 undef) :: (arr.getD 40 undef) :: (arr.getD 41 undef) :: (arr.getD 42 undef) :: (arr.getD 43 undef) :: (arr.getD 44 undef) :: (arr.getD 45 undef) :: (arr.getD 46 undef) :: (arr.getD 47 undef) :: (arr.getD 48 undef) :: (arr.getD 49 undef) :: (arr.getD 50 undef) :: (arr.getD 51 undef) :: (arr.getD 52 undef) :: (arr.getD 53 undef) :: (arr.getD 54 undef) :: (arr.getD 55 undef) :: (arr.getD 56 undef) :: (arr.getD 57 undef) :: (arr.getD 58 undef) :: (arr.getD 59 undef) :: (arr.getD 60 undef) :: (arr.getD 61 undef) :: (arr.getD 62 undef) :: (arr.getD 63 undef) :: (arr.getD 64 undef) :: (arr.getD 65 undef) :: (arr.getD 66 undef) :: (arr.getD 67 undef) :: (arr.getD 68 undef) :: (arr.getD 69 undef) :: (arr.getD 70 undef) :: (arr.getD 71 undef) :: (arr.getD 72 undef) :: (arr.getD 73 undef) :: (arr.getD 74 undef) :: (arr.getD 75 undef) :: (arr.getD 76 undef) :: (arr.getD 77 undef) :: (arr.getD 78 undef) :: (arr.getD 79 undef) :: (arr.getD 80 undef) :: (arr.getD 81 undef) :: (arr.getD 82 undef) :: (arr.getD 83 undef) :: (arr.getD 84 undef) :: (arr.getD 85 undef) :: (arr.getD 86 undef) :: (arr.getD 87 undef) :: (arr.getD 88 undef) :: (arr.getD 89 undef) :: (arr.getD 90 undef) :: (arr.getD 91 undef) :: (arr.getD 92 undef) :: (arr.getD 93 undef) :: (arr.getD 94 undef) :: (arr.getD 95 undef) :: (arr.getD 96 undef) :: (arr.getD 97 undef) :: (arr.getD 98 undef) :: (arr.getD 99 undef) :: (arr.getD 100 undef) :: (arr.getD 101 undef) :: (arr.getD 102 undef) :: (arr.getD 103 undef) :: (arr.getD 104 undef) :: (arr.getD 105 undef) :: (arr.getD 106 undef) :: (arr.getD 107 undef) :: (arr.getD 108 undef) :: (arr.getD 109 undef) :: (arr.getD 110 undef) :: (arr.getD 111 undef) :: (arr.getD 112 undef) :: (arr.getD 113 undef) :: (arr.getD 114 undef) :: (arr.getD 115 undef) :: (arr.getD 116 undef) :: (arr.getD 117 undef) :: (arr.getD 118 undef) :: (arr.getD 119 undef) :: (arr.getD 120 undef) :: (arr.getD 121 undef) :: (arr.getD 122 undef) :: (arr.getD 123 undef) :: (arr.getD 124 undef) :: (arr.getD 125 undef) :: (arr.getD 126 undef) :: (arr.getD 127 undef) :: (arr.getD 128 undef) :: (arr.getD 129 undef) :: (arr.getD 130 undef) :: (arr.getD 131 undef) :: (arr.getD 132 undef) :: (arr.getD 133 undef) :: (arr.getD 134 undef) :: (arr.getD 135 undef) :: (arr.getD 136 undef) :: (arr.getD 137 undef) :: (arr.getD 138 undef) :: (arr.getD 139 undef) :: (arr.getD 140 undef) :: (arr.getD 141 undef) :: (arr.getD 142 undef) :: (arr.getD 143 undef) :: (arr.getD 144 undef) :: (arr.getD 145 undef) :: (arr.getD 146 undef) :: (arr.getD 147 undef) :: (arr.getD 148 undef) :: (arr.getD 149 undef) :: (arr.getD 150 undef) :: (arr.getD 151 undef) :: (arr.getD 152 undef) :: (arr.getD 153 undef) :: (arr.getD 154 undef) :: (arr.getD 155 undef) :: (arr.getD 156 undef) :: (arr.getD 157 undef) :: (arr.getD 158 undef) :: (arr.getD 159 undef) :: (arr.getD 160 undef) :: (arr.getD 161 undef) :: (arr.getD 162 undef) :: (arr.getD 163 undef) :: (arr.getD 164 undef) :: (arr.getD 165 undef) :: (arr.getD 166 undef) :: (arr.getD 167 undef) :: (arr.getD 168 undef) :: (arr.getD 169 undef) :: (arr.getD 170 undef) :: (arr.getD 171 undef) :: (arr.getD 172 undef) :: (arr.getD 173 undef) :: (arr.getD 174 undef) :: (arr.getD 175 undef) :: (arr.getD 176 undef) :: (arr.getD 177 undef) :: (arr.getD 178 undef) :: (arr.getD 179 undef) :: (arr.getD 180 undef) :: (arr.getD 181 undef) :: (arr.getD 182 undef) :: (arr.getD 183 undef) :: (arr.getD 184 undef) :: (arr.getD 185 undef) :: (arr.getD 186 undef) :: (arr.getD 187 undef) :: (arr.getD 188 undef) :: (arr.getD 189 undef) :: (arr.getD 190 undef) :: (arr.getD 191 undef) :: (arr.getD 192 undef) :: (arr.getD 193 undef) :: (arr.getD 194 undef) :: (arr.getD 195 undef) :: (arr.getD 196 undef) :: (arr.getD 197 undef) :: (arr.getD 198 undef) :: (arr.getD 199 undef) :: (arr.getD 200 undef) :: (arr.getD 201 undef) :: (arr.getD 202 undef) :: (arr.getD 203 undef) :: (arr.getD 204 undef) :: (arr.getD 205 undef) :: (arr.getD 206 undef) :: (arr.getD 207 undef) :: (arr.getD 208 undef) :: (arr.getD 209 undef) :: (arr.getD 210 undef) :: (arr.getD 211 undef) :: (arr.getD 212 undef) :: (arr.getD 213 undef) :: (arr.getD 214 undef) :: (arr.getD 215 undef) :: (arr.getD 216 undef) :: (arr.getD 217 undef) :: (arr.getD 218 undef) :: (arr.getD 219 undef) :: (arr.getD 220 undef) :: (arr.getD 221 undef) :: (arr.getD 222 undef) :: (arr.getD 223 undef) :: []), defers := [] }) :
    Code.wp Tryz.prog (Code.loop expBody) Q0 { tmps := arr, defers := [] } w' := by
  refine wp_loop (ExpI c) (fun a _ => expMu c a) ?_ (fun a w'' hI' => ?_)
  · exact ExpI_of (i := 0) _ ha rfl st
  · obtain ⟨u', hI'⟩ := hI'
    obtain ⟨i, hI'⟩ := hI'
    obtain ⟨v6, hI'⟩ := hI'
    obtain ⟨h6, hI'⟩ := hI'
    obtain ⟨st, hI'⟩ := hI'
    subst h6
    subst hI'
    by_cases hi : i < c.u.es.length
    · by_cases h1 : c.u.es[i].k = 1
      · exact exps_var c Q0 hret u' i w'' st hi h1
      by_cases h2 : c.u.es[i].k = 2
      · exact exps_any c Q0 hret u' i w'' st hi h2
      by_cases h3 : c.u.es[i].k = 3
      · exact exps_term c Q0 hret u' i w'' st hi h3
      by_cases h4 : c.u.es[i].k = 4
      · exact exps_con c Q0 hret u' i w'' st hi h4
      by_cases h5 : c.u.es[i].k = 5
      · exact exps_add c Q0 hret u' i w'' st hi h5
      by_cases h6 : c.u.es[i].k = 6
      · exact exps_sub c Q0 hret u' i w'' st hi h6
      by_cases h7 : c.u.es[i].k = 7
      · exact exps_mul c Q0 hret u' i w'' st hi h7
      exact exps_none c Q0 hret u' i w'' st hi (by omega)
    · exact exps_end c Q0 hend u' i w'' st hi

/-- The cells of a row, flat. -/
theorem row_cells {α : Type} {F : Flat α} {c : Nat} {S : Nat → Prop} {w : World} {b off : Nat} (hone : ∀ vs x, F S w vs x → ∀ u ∈ vs, u.oneCell' = true) : ∀ (n : Nat) (l : List α), l.length = n → RowIn F c S w (some ⟨b, off, none⟩) l →
    ∃ news : List Value, news.length = l.length * c ∧ (∀ j (h : j < news.length), w.cell? ⟨b, off + j, none⟩ = some news[j]) ∧ (∀ u ∈ news, u.oneCell' = true) ∧ ∀ i (h : i < l.length), ∃ vs : List Value, vs.length = c ∧ F S w vs l[i] ∧ ∀ j (h : j < vs.length), news[i * c + j]? = some vs[j]
  | 0, l, hn, _ => by
    obtain rfl := List.eq_nil_of_length_eq_zero hn
    exact ⟨[], by simp, fun j h => by simp at h, by simp, fun i h => by simp at h⟩
  | n + 1, l, hn, hrow => by
    have hlt : n < l.length := by omega
    obtain ⟨b', off', vs, he, hSb, hvl, hcc, hF⟩ := hrow n hlt
    obtain ⟨rfl, rfl⟩ : b = b' ∧ off = off' := by simpa using he
    have hrow' : RowIn F c S w (some ⟨b, off, none⟩) (l.take n) := by
      intro i hi
      have hi' : i < l.length := by rw [List.length_take] at hi; omega
      obtain ⟨b1, o1, vs1, h1, h2, h3, h4, h5⟩ := hrow i hi'
      exact ⟨b1, o1, vs1, h1, h2, h3, h4, by rw [List.getElem_take]; exact h5⟩
    obtain ⟨news, g1, g2, g3, g4⟩ := row_cells hone n (l.take n) (by rw [List.length_take]; omega) hrow'
    have hln : (l.take n).length = n := by rw [List.length_take]; omega
    rw [hln] at g1
    refine ⟨news ++ vs, by rw [List.length_append, g1, hvl, hn, Nat.succ_mul], ?_, ?_, ?_⟩
    · intro j hj
      by_cases hjn : j < news.length
      · rw [List.getElem_append_left hjn]
        exact g2 j hjn
      · rw [List.getElem_append_right (by omega)]
        rw [List.length_append] at hj
        have := hcc (j - news.length) (by omega)
        rw [← this, show off + j = off + n * c + (j - news.length) from by omega]
    · intro u hu
      rcases List.mem_append.1 hu with h | h
      · exact g3 u h
      · exact hone _ _ hF u h
    · intro i hi
      by_cases hin : i < n
      · obtain ⟨us, e1, e2, e3⟩ := g4 i (by omega)
        rw [List.getElem_take] at e2
        refine ⟨us, e1, e2, fun j hj => ?_⟩
        have hm : (i + 1) * c ≤ n * c := Nat.mul_le_mul_right c hin
        rw [Nat.succ_mul] at hm
        rw [List.getElem?_append_left (by omega)]
        exact e3 j hj
      · obtain rfl : i = n := by omega
        refine ⟨vs, hvl, hF, fun j hj => ?_⟩
        rw [List.getElem?_append_right (by omega), g1, Nat.add_sub_cancel_left]
        exact List.getElem?_eq_getElem hj
theorem FIt_one (S : Nat → Prop) (w : World) (vs : List Value) (x : It) (h : FIt S w vs x) : ∀ u ∈ vs, u.oneCell' = true := by
  obtain ⟨a, k, rfl, _⟩ := h
  intro u hu
  simp only [List.mem_cons, List.not_mem_nil, or_false] at hu
  rcases hu with rfl | rfl | rfl <;> rfl

/-- append of one literal and a row of them. -/
theorem append_lits (c : Ctx) (w' : World) (hb : Below c.w.heap.size c.w w') (g : Nat) (hg : c.w.heap.size + 3 ≤ g) (hrow : w'.ownsRow c.w.heap.size 33 3 (.slice (some ⟨g, 0, none⟩) 1 1) 1 [.int .i64 c.u.hd.k, .string c.u.hd.s, .slice c.ahd c.u.hd.xs.length c.chd]) (ty : TypeId) :
    ∃ gl cap w1, (Builtin.append_ #[34, 34] ty #[.slice (some ⟨g, 0, none⟩) 1 1, .slice c.abd c.u.bd.length c.cbd]).run Tryz.prog w' = .ok (.slice (some ⟨gl, 0, none⟩) (1 + c.u.bd.length) cap) w1 ∧ w'.grownBy w1 (some g) ∧ (gl = g ∨ gl = w'.heap.size) ∧ gl < w1.heap.size ∧ RowIn FIt 3 (fun b => c.S b ∨ b = gl) w1 (some ⟨gl, 0, none⟩) (c.u.hd :: c.u.bd) := by
  obtain ⟨i0, hi0, hz0, hz1, hz2⟩ := info_parts infoLit
  have hbl : c.u.bd.length ≤ 1048576 := by
    have := c.wt
    unfold Ru.wt wtLitS at this
    omega
  have hSw : ∀ b, c.S b → b < w'.heap.size := fun b h => Nat.lt_of_lt_of_le (c.hS b h) hb.size
  have hgw : g < w'.heap.size := by
    rcases hrow.2 with ⟨h, _⟩ | ⟨g', cap', cur, hv, _, hh, _⟩
    · cases h
    · simp only [Value.slice.injEq, Option.some.injEq, Addr.mk.injEq, true_and, and_true] at hv
      obtain ⟨rfl, rfl⟩ := hv
      exact lt_of_block hh
  have hmem : Same c.S c.w w' := Same.below c.hS hb
  -- the row, whatever its cells
  have fin : ∀ (gl cap : Nat) (w1 : World) (news : List Value), news.length = c.u.bd.length * 3 → (∀ i (h : i < c.u.bd.length), ∃ vs : List Value, vs.length = 3 ∧ FIt c.S w' vs c.u.bd[i] ∧ ∀ j (h : j < vs.length), news[i * 3 + j]? = some vs[j]) → w1.ownsRow c.w.heap.size 33 3 (.slice (some ⟨gl, 0, none⟩) (1 + c.u.bd.length) cap) (1 + c.u.bd.length) ([.int .i64 c.u.hd.k, .string c.u.hd.s, .slice c.ahd c.u.hd.xs.length c.chd] ++ news) → Same c.S w' w1 → RowIn FIt 3 (fun b => c.S b ∨ b = gl) w1 (some ⟨gl, 0, none⟩) (c.u.hd :: c.u.bd) := by
    intro gl cap w1 news hn hall hown hsm i hi
    cases i with
    | zero =>
      refine ⟨gl, 0, [.int .i64 c.u.hd.k, .string c.u.hd.s, .slice c.ahd c.u.hd.xs.length c.chd], rfl, .inr rfl, rfl, ?_, c.ahd, c.chd, rfl, (((c.hhd.kept hmem).kept hsm).mono (fun b h => .inl h))⟩
      intro j hj
      simp only [List.length_cons, List.length_nil] at hj
      rw [show 0 + 0 * 3 + j = j from by omega, hown.cellAt j (by omega), List.getElem?_append_left (by simpa using hj)]
      exact List.getElem?_eq_getElem hj
    | succ i =>
      have hi' : i < c.u.bd.length := by simpa using hi
      obtain ⟨vs, e1, e2, e3⟩ := hall i hi'
      refine ⟨gl, 0, vs, rfl, .inr rfl, e1, ?_, FIt_keeps.2 _ _ _ _ _ (FIt_keeps.1 _ _ _ _ _ e2 hsm) (fun b h => .inl h)⟩
      intro j hj
      rw [hown.cellAt _ (by omega), List.getElem?_append_right (by simp; omega)]
      have := e3 j hj
      rw [show 0 + (i + 1) * 3 + j - [Value.int .i64 c.u.hd.k, .string c.u.hd.s, .slice c.ahd c.u.hd.xs.length c.chd].length = i * 3 + j from by simp; omega]
      exact this
  rcases Nat.eq_zero_or_pos c.u.bd.length with h0 | h0
  · have hbd : c.u.bd = [] := List.eq_nil_of_length_eq_zero h0
    have hsame : (Builtin.append_ #[34, 34] ty #[.slice (some ⟨g, 0, none⟩) 1 1, .slice c.abd 0 c.cbd]).run Tryz.prog w' = .ok (.slice (some ⟨g, 0, none⟩) 1 1) w' := by
      cases c.abd with
      | none => simp [Builtin.append_, run_underlying Tryz.underlying34, sizeOf, typeInfo, hi0, Builtin.lenOf, Builtin.firstCells, storeCells]
      | some ad => simp [Builtin.append_, run_underlying Tryz.underlying34, sizeOf, typeInfo, hi0, Builtin.lenOf, Builtin.firstCells, storeCells, loadCells, loadCellsFrom]
    refine ⟨g, 1, w', by rw [h0]; exact hsame, World.grownBy.refl w' _, .inl rfl, hgw, ?_⟩
    exact fin g 1 w' [] (by rw [h0]; rfl) (fun i h => by omega) (by rw [h0, List.append_nil]; exact hrow) (Same.refl _ _)
  · obtain ⟨b, off, vs, hab, _, _, _, _⟩ := c.hbd 0 h0
    have hbd := RowIn.kept FIt_keeps c.hbd hmem
    rw [hab] at hbd
    obtain ⟨news, n1, n2, n3, n4⟩ := row_cells (F := FIt) (fun vs x h => FIt_one _ _ vs x h) c.u.bd.length c.u.bd rfl hbd
    obtain ⟨gl, cap, w1, a1, a2, a3, a4, a5⟩ := run_append_lies (P := Tryz.prog) w' 34 ty c.w.heap.size 33 i0 _ 3 48 Tryz.underlying34 hi0 hz0 hz1 hz2 rfl (by omega) (.slice (some ⟨g, 0, none⟩) 1 1) 1 _ hrow ⟨b, off, none⟩ c.u.bd.length c.cbd news n1
      (fun j u hu => by
        obtain ⟨hj, rfl⟩ := List.getElem?_eq_some_iff.1 hu
        have := n2 j hj
        rw [← this]
        unfold Addr.add
        by_cases h : j = 0 <;> simp [h]) n3 h0 (by unfold maxLen; omega) (by omega) hb.size w'.heap.size rfl
    refine ⟨gl, cap, w1, by rw [hab]; exact a1, a3, ?_, a5, ?_⟩
    · rcases a4 with h | h
      · exact .inl (by simpa [Value.ownBlock] using h.symm)
      · exact .inr h
    · exact fin gl cap w1 news n1 n4 a2 (fun k hk => a3.block k (hSw k hk) (by simp [Value.ownBlock]; have := c.hS k hk; omega))

end Go.Proofs.YtilijbpbnlnhlaaGreat.Pr
