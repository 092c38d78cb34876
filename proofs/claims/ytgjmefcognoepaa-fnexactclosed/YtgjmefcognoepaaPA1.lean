/-
  GRAPHS AS TABLES: a table of 36 strengths and the arcs that it stands for; two tables put together.
-/
import Derived.Test.YtgjmefcognoepaaPG5
namespace Go.Proofs.Ytgjmefcognoepaa.Pr
open Go Go.RowKit Go.Maps Go.WideMaps

def gd (L : List Int) (m : Nat) : Int := L.getD m 0
theorem gd_set {L : List Int} {k : Nat} {v : Int} (hk : k < L.length) (m : Nat) : gd (L.set k v) m = if m = k then v else gd L m := by
  unfold gd
  by_cases h : m = k
  · subst h
    simp [List.getD_eq_getElem?_getD, List.getElem?_set, hk]
  · rw [if_neg h, List.getD_eq_getElem?_getD, List.getD_eq_getElem?_getD, List.getElem?_set, if_neg (fun e => h e.symm)]
def strOf (s : Bool) : Int := if s then 2 else 1

structure Tab (L : List Int) (l : List Ar) : Prop where
  len : L.length = 36
  val : ∀ m, gd L m = 0 ∨ gd L m = 1 ∨ gd L m = 2
  any : ∀ a b : Nat, a < 6 → b < 6 → (gd L (6 * a + b) ≠ 0 ↔ ∃ x ∈ l, x.a = (a : Int) ∧ x.b = (b : Int))
  str : ∀ a b : Nat, a < 6 → b < 6 → (gd L (6 * a + b) = 2 ↔ ∃ x ∈ l, x.a = (a : Int) ∧ x.b = (b : Int) ∧ x.s = true)
theorem gd_zero (n m : Nat) : gd (List.replicate n 0) m = 0 := by
  unfold gd
  rw [List.getD_eq_getElem?_getD, List.getElem?_replicate]
  split <;> rfl
theorem Tab.nil : Tab (List.replicate 36 0) [] := ⟨List.length_replicate, fun m => .inl (gd_zero _ _), fun a b _ _ => by rw [gd_zero]; simp, fun a b _ _ => by rw [gd_zero]; simp⟩
theorem Tab.snoc {L : List Int} {l : List Ar} (T : Tab L l) {x : Ar} {a b : Nat} (ha : a < 6) (hb : b < 6) (hxa : x.a = (a : Int)) (hxb : x.b = (b : Int)) (hn : ∀ y ∈ l, ¬ (y.a = x.a ∧ y.b = x.b)) :
    Tab (L.set (6 * a + b) (strOf x.s)) (l ++ [x]) := by
  have hk : 6 * a + b < L.length := by rw [T.len]; omega
  have hno : ¬ ∃ y ∈ l, y.a = (a : Int) ∧ y.b = (b : Int) := fun ⟨y, hy, h1, h2⟩ => hn y hy ⟨by rw [h1, hxa], by rw [h2, hxb]⟩
  have hsv : strOf x.s = 1 ∨ strOf x.s = 2 := by unfold strOf; split <;> simp
  refine ⟨by rw [List.length_set]; exact T.len, fun m => ?_, fun c d hc hd => ?_, fun c d hc hd => ?_⟩
  · rw [gd_set hk]
    split
    · rcases hsv with h | h <;> simp [h]
    · exact T.val m
  · rw [gd_set hk]
    by_cases h : 6 * c + d = 6 * a + b
    · obtain ⟨rfl, rfl⟩ : c = a ∧ d = b := by omega
      rw [if_pos rfl]
      refine ⟨fun _ => ⟨x, by simp, hxa, hxb⟩, fun _ => by rcases hsv with h | h <;> simp [h]⟩
    · rw [if_neg h, T.any c d hc hd]
      constructor
      · rintro ⟨y, hy, h1⟩; exact ⟨y, by simp [hy], h1⟩
      · rintro ⟨y, hy, h1, h2⟩
        rcases List.mem_append.1 hy with hy | hy
        · exact ⟨y, hy, h1, h2⟩
        · obtain rfl := List.mem_singleton.1 hy; omega
  · rw [gd_set hk]
    by_cases h : 6 * c + d = 6 * a + b
    · obtain ⟨rfl, rfl⟩ : c = a ∧ d = b := by omega
      rw [if_pos rfl]
      constructor
      · intro hs
        refine ⟨x, by simp, hxa, hxb, ?_⟩
        cases hx : x.s with
        | true => rfl
        | false => rw [hx] at hs; simp [strOf] at hs
      · rintro ⟨y, hy, h1, h2, h3⟩
        rcases List.mem_append.1 hy with hy | hy
        · exact absurd ⟨y, hy, h1, h2⟩ hno
        · obtain rfl := List.mem_singleton.1 hy; rw [h3]; rfl
    · rw [if_neg h, T.str c d hc hd]
      constructor
      · rintro ⟨y, hy, h1⟩; exact ⟨y, by simp [hy], h1⟩
      · rintro ⟨y, hy, h1, h2, h3⟩
        rcases List.mem_append.1 hy with hy | hy
        · exact ⟨y, hy, h1, h2, h3⟩
        · obtain rfl := List.mem_singleton.1 hy; omega

/-- The arcs that a table stands for. -/
def cellArc (L : List Int) (m : Nat) : Ar := ⟨pA m, pB m, gd L m == 2⟩
def listTo (L : List Int) (m : Nat) : List Ar := ((List.range m).filter fun m => gd L m != 0).map (cellArc L)
def listOf (L : List Int) : List Ar := listTo L 36
theorem listTo_in {L : List Int} {m : Nat} (hm : gd L m ≠ 0) : listTo L (m + 1) = listTo L m ++ [cellArc L m] := by
  unfold listTo
  rw [List.range_succ, List.filter_append, List.map_append]
  simp [hm]
theorem listTo_out {L : List Int} {m : Nat} (hm : gd L m = 0) : listTo L (m + 1) = listTo L m := by
  unfold listTo
  rw [List.range_succ, List.filter_append, List.map_append]
  simp [hm]
theorem listTo_len (L : List Int) (m : Nat) : (listTo L m).length ≤ m := by
  unfold listTo
  rw [List.length_map]
  exact Nat.le_trans (List.length_filter_le _ _) (by simp)

theorem sorted_ext {α : Type} (f : α → Int) : ∀ l m : List α, l.Pairwise (fun x y => f x < f y) → m.Pairwise (fun x y => f x < f y) → (∀ x, x ∈ l ↔ x ∈ m) → l = m
  | [], [], _, _, _ => rfl
  | [], y :: m, _, _, h => by have := (h y).2 (by simp); simp at this
  | x :: l, [], _, _, h => by have := (h x).1 (by simp); simp at this
  | x :: l, y :: m, hl, hm, h => by
    rw [List.pairwise_cons] at hl hm
    have hxy : x = y := by
      rcases List.mem_cons.1 ((h x).1 (by simp)) with e | e
      · exact e
      · rcases List.mem_cons.1 ((h y).2 (by simp)) with e2 | e2
        · exact e2.symm
        · have := hm.1 x e; have := hl.1 y e2; omega
    subst hxy
    congr 1
    refine sorted_ext f l m hl.2 hm.2 fun z => ?_
    constructor
    · intro hz
      rcases List.mem_cons.1 ((h z).1 (by simp [hz])) with e | e
      · subst e; have := hl.1 z hz; omega
      · exact e
    · intro hz
      rcases List.mem_cons.1 ((h z).2 (by simp [hz])) with e | e
      · subst e; have := hm.1 z hz; omega
      · exact e

theorem RightA.sorted {l : List Ar} (R : RightA l) : l.Pairwise (fun x y => arcKey x < arcKey y) := by
  rw [List.pairwise_iff_getElem]
  intro i j hi hj hij
  obtain ⟨d, rfl⟩ : ∃ d, j = i + 1 + d := ⟨j - i - 1, by omega⟩
  induction d with
  | zero => exact R.up i hj
  | succ d ih => exact Int.lt_trans (ih (by omega) (by omega)) (R.up (i + 1 + d) hj)
theorem listOf_sorted (L : List Int) : (listOf L).Pairwise (fun x y => arcKey x < arcKey y) := by
  unfold listOf listTo
  rw [List.pairwise_map]
  refine List.Pairwise.filter _ ?_
  refine List.Pairwise.imp_of_mem (R := fun a b => a < b) ?_ List.pairwise_lt_range
  intro a b _ _ hab
  unfold arcKey cellArc pA pB
  dsimp only
  omega
theorem mem_listOf {L : List Int} {x : Ar} : x ∈ listOf L ↔ ∃ m, m < 36 ∧ gd L m ≠ 0 ∧ x = cellArc L m := by
  unfold listOf listTo
  rw [List.mem_map]
  constructor
  · rintro ⟨m, hm, rfl⟩
    rw [List.mem_filter, List.mem_range] at hm
    exact ⟨m, hm.1, by simpa using hm.2, rfl⟩
  · rintro ⟨m, h1, h2, rfl⟩
    exact ⟨m, by rw [List.mem_filter, List.mem_range]; exact ⟨h1, by simpa using h2⟩, rfl⟩

theorem RightA.uniq {l : List Ar} (R : RightA l) {x y : Ar} (hx : x ∈ l) (hy : y ∈ l) (ha : x.a = y.a) (hb : x.b = y.b) : x = y := by
  obtain ⟨i, hi, rfl⟩ := List.getElem_of_mem hx
  obtain ⟨j, hj, rfl⟩ := List.getElem_of_mem hy
  have hs := List.pairwise_iff_getElem.1 R.sorted
  rcases Nat.lt_trichotomy i j with h | h | h
  · have := hs i j hi hj h; unfold arcKey at this; omega
  · subst h; rfl
  · have := hs j i hj hi h; unfold arcKey at this; omega
theorem RightA.places {l : List Ar} (R : RightA l) {x : Ar} (hx : x ∈ l) : ∃ a b : Nat, a < 6 ∧ b < 6 ∧ x.a = (a : Int) ∧ x.b = (b : Int) := by
  obtain ⟨i, hi, rfl⟩ := List.getElem_of_mem hx
  have := R.pl i hi
  unfold inA at this
  exact ⟨l[i].a.toNat, l[i].b.toNat, by omega, by omega, by omega, by omega⟩

theorem Tab.list {L : List Int} {l : List Ar} (T : Tab L l) (R : RightA l) : listOf L = l := by
  refine sorted_ext arcKey _ _ (listOf_sorted L) R.sorted fun x => ?_
  rw [mem_listOf]
  constructor
  · rintro ⟨m, hm, hne, rfl⟩
    have hm2 : 6 * (m / 6) + m % 6 = m := by omega
    have h1 := T.any (m / 6) (m % 6) (by omega) (by omega)
    have h2 := T.str (m / 6) (m % 6) (by omega) (by omega)
    rw [hm2] at h1 h2
    obtain ⟨y, hy, e1, e2⟩ := h1.1 hne
    have : cellArc L m = y := by
      obtain ⟨ya, yb, ys⟩ := y
      dsimp only at e1 e2
      subst e1 e2
      unfold cellArc pA pB
      congr 1
      cases ys with
      | true => simpa using h2.2 ⟨_, hy, rfl, rfl, rfl⟩
      | false =>
        have : ¬ gd L m = 2 := fun h => by
          obtain ⟨z, hz, z1, z2, z3⟩ := h2.1 h
          have := R.uniq hz hy z1 z2
          rw [this] at z3
          cases z3
        simpa using this
    rw [this]; exact hy
  · intro hx
    obtain ⟨a, b, ha, hb, e1, e2⟩ := R.places hx
    refine ⟨6 * a + b, by omega, (T.any a b ha hb).2 ⟨x, hx, e1, e2⟩, ?_⟩
    obtain ⟨xa, xb, xs⟩ := x
    dsimp only at e1 e2
    unfold cellArc pA pB
    have q1 : (6 * a + b) / 6 = a := by omega
    have q2 : (6 * a + b) % 6 = b := by omega
    rw [q1, q2, e1, e2]
    congr 1
    have h2 := T.str a b ha hb
    cases xs with
    | true => rw [h2.2 ⟨_, hx, e1, e2, rfl⟩]; rfl
    | false =>
      have : ¬ gd L (6 * a + b) = 2 := fun h => by
        obtain ⟨z, hz, z1, z2, z3⟩ := h2.1 h
        have := R.uniq hz hx (by rw [z1, e1]) (by rw [z2, e2])
        rw [this] at z3
        cases z3
      symm
      simpa using this

/-- Two tables put together, as far as n of the 216 ways. -/
def wayA (n : Nat) : Nat := n / 36
def wayO (n : Nat) : Nat := n / 6 % 6
def wayB (n : Nat) : Nat := n % 6
def thenTo (G H : List Int) : Nat → List Int
  | 0 => List.replicate 36 0
  | n + 1 =>
    let M := thenTo G H n
    if gd G (6 * wayA n + wayO n) ≠ 0 ∧ gd H (6 * wayO n + wayB n) ≠ 0 then
      M.set (6 * wayA n + wayB n) (max (max (gd M (6 * wayA n + wayB n)) (gd G (6 * wayA n + wayO n))) (gd H (6 * wayO n + wayB n)))
    else M
theorem thenTo_len (G H : List Int) : ∀ n, (thenTo G H n).length = 36
  | 0 => by simp [thenTo]
  | n + 1 => by
    unfold thenTo
    dsimp only
    split
    · rw [List.length_set]; exact thenTo_len G H n
    · exact thenTo_len G H n
structure Tw (G H M : List Int) (n : Nat) : Prop where
  val : ∀ m, gd M m = 0 ∨ gd M m = 1 ∨ gd M m = 2
  any : ∀ a b : Nat, a < 6 → b < 6 → (gd M (6 * a + b) ≠ 0 ↔ ∃ o, o < 6 ∧ 36 * a + 6 * o + b < n ∧ gd G (6 * a + o) ≠ 0 ∧ gd H (6 * o + b) ≠ 0)
  str : ∀ a b : Nat, a < 6 → b < 6 → (gd M (6 * a + b) = 2 ↔ ∃ o, o < 6 ∧ 36 * a + 6 * o + b < n ∧ gd G (6 * a + o) ≠ 0 ∧ gd H (6 * o + b) ≠ 0 ∧ (gd G (6 * a + o) = 2 ∨ gd H (6 * o + b) = 2))
theorem thenTo_tw {G H : List Int} (hG : ∀ m, gd G m = 0 ∨ gd G m = 1 ∨ gd G m = 2) (hH : ∀ m, gd H m = 0 ∨ gd H m = 1 ∨ gd H m = 2) : ∀ n, n ≤ 216 → Tw G H (thenTo G H n) n
  | 0, _ => by
    unfold thenTo
    exact ⟨fun m => .inl (gd_zero _ _), fun a b _ _ => by rw [gd_zero]; simp, fun a b _ _ => by rw [gd_zero]; simp⟩
  | n + 1, hn => by
    have ih := thenTo_tw hG hH n (by omega)
    obtain ⟨A, hA⟩ : ∃ A, wayA n = A := ⟨_, rfl⟩
    obtain ⟨O, hO⟩ : ∃ O, wayO n = O := ⟨_, rfl⟩
    obtain ⟨B, hB⟩ : ∃ B, wayB n = B := ⟨_, rfl⟩
    have hnn : n = 36 * A + 6 * O + B ∧ A < 6 ∧ O < 6 ∧ B < 6 := by
      unfold wayA at hA; unfold wayO at hO; unfold wayB at hB; omega
    obtain ⟨rfl, hA6, hO6, hB6⟩ := hnn
    have hM : thenTo G H (36 * A + 6 * O + B + 1) = if gd G (6 * A + O) ≠ 0 ∧ gd H (6 * O + B) ≠ 0 then
        (thenTo G H (36 * A + 6 * O + B)).set (6 * A + B) (max (max (gd (thenTo G H (36 * A + 6 * O + B)) (6 * A + B)) (gd G (6 * A + O))) (gd H (6 * O + B))) else thenTo G H (36 * A + 6 * O + B) := by
      conv => lhs; unfold thenTo
      dsimp only
      rw [hA, hO, hB]
    rw [hM]
    have hlen := thenTo_len G H (36 * A + 6 * O + B)
    generalize thenTo G H (36 * A + 6 * O + B) = M at ih hlen ⊢
    by_cases hc : gd G (6 * A + O) ≠ 0 ∧ gd H (6 * O + B) ≠ 0
    · rw [if_pos hc]
      have hk : 6 * A + B < M.length := by omega
      have v1 := ih.val (6 * A + B)
      have v2 := hG (6 * A + O)
      have v3 := hH (6 * O + B)
      refine ⟨fun m => ?_, fun a b ha hb => ?_, fun a b ha hb => ?_⟩
      · rw [gd_set hk]
        split
        · omega
        · exact ih.val m
      · rw [gd_set hk]
        by_cases h : 6 * a + b = 6 * A + B
        · obtain ⟨rfl, rfl⟩ : a = A ∧ b = B := by omega
          rw [if_pos rfl]
          exact ⟨fun _ => ⟨O, hO6, by omega, hc⟩, fun _ => by omega⟩
        · rw [if_neg h, ih.any a b ha hb]
          constructor
          · rintro ⟨o, h1, h2, h3⟩; exact ⟨o, h1, by omega, h3⟩
          · rintro ⟨o, h1, h2, h3⟩; exact ⟨o, h1, by omega, h3⟩
      · rw [gd_set hk]
        by_cases h : 6 * a + b = 6 * A + B
        · obtain ⟨rfl, rfl⟩ : a = A ∧ b = B := by omega
          rw [if_pos rfl]
          constructor
          · intro h2
            by_cases h3 : gd G (6 * a + O) = 2 ∨ gd H (6 * O + b) = 2
            · exact ⟨O, hO6, by omega, hc.1, hc.2, h3⟩
            · obtain ⟨o, q1, q2, q3⟩ := (ih.str a b ha hb).1 (by omega)
              exact ⟨o, q1, by omega, q3⟩
          · rintro ⟨o, q1, q2, q3, q4, q5⟩
            by_cases ho : o = O
            · subst ho; omega
            · have := (ih.str a b ha hb).2 ⟨o, q1, by omega, q3, q4, q5⟩
              omega
        · rw [if_neg h, ih.str a b ha hb]
          constructor
          · rintro ⟨o, h1, h2, h3⟩; exact ⟨o, h1, by omega, h3⟩
          · rintro ⟨o, h1, h2, h3⟩; exact ⟨o, h1, by omega, h3⟩
    · rw [if_neg hc]
      refine ⟨ih.val, fun a b ha hb => ?_, fun a b ha hb => ?_⟩
      · rw [ih.any a b ha hb]
        constructor
        · rintro ⟨o, h1, h2, h3⟩; exact ⟨o, h1, by omega, h3⟩
        · rintro ⟨o, h1, h2, h3⟩
          refine ⟨o, h1, ?_, h3⟩
          by_cases he : 36 * a + 6 * o + b = 36 * A + 6 * O + B
          · obtain ⟨rfl, rfl, rfl⟩ : a = A ∧ o = O ∧ b = B := by omega
            exact absurd h3 hc
          · omega
      · rw [ih.str a b ha hb]
        constructor
        · rintro ⟨o, h1, h2, h3⟩; exact ⟨o, h1, by omega, h3⟩
        · rintro ⟨o, h1, h2, h3, h4, h5⟩
          refine ⟨o, h1, ?_, h3, h4, h5⟩
          by_cases he : 36 * a + 6 * o + b = 36 * A + 6 * O + B
          · obtain ⟨rfl, rfl, rfl⟩ : a = A ∧ o = O ∧ b = B := by omega
            exact absurd ⟨h3, h4⟩ hc
          · omega
def thenT (G H : List Int) : List Int := thenTo G H 216

theorem meets_iff {g h : List Ar} {a b : Int} : meets g h a b = true ↔ ∃ x ∈ g, ∃ y ∈ h, x.a = a ∧ x.b = y.a ∧ y.b = b := by
  unfold meets hit
  simp only [List.any_eq_true, Bool.and_eq_true, beq_iff_eq]
  constructor
  · rintro ⟨x, hx, y, hy, ⟨h1, h2⟩, h3⟩; exact ⟨x, hx, y, hy, h1, h2, h3⟩
  · rintro ⟨x, hx, y, hy, h1, h2, h3⟩; exact ⟨x, hx, y, hy, ⟨h1, h2⟩, h3⟩
theorem meetsS_iff {g h : List Ar} {a b : Int} : meetsS g h a b = true ↔ ∃ x ∈ g, ∃ y ∈ h, x.a = a ∧ x.b = y.a ∧ y.b = b ∧ (x.s = true ∨ y.s = true) := by
  unfold meetsS hitS hit
  simp only [List.any_eq_true, Bool.and_eq_true, beq_iff_eq, Bool.or_eq_true]
  constructor
  · rintro ⟨x, hx, y, hy, ⟨⟨h1, h2⟩, h3⟩, h4⟩; exact ⟨x, hx, y, hy, h1, h2, h3, h4⟩
  · rintro ⟨x, hx, y, hy, h1, h2, h3, h4⟩; exact ⟨x, hx, y, hy, ⟨⟨h1, h2⟩, h3⟩, h4⟩

theorem thenT_list {G H : List Int} {g h : List Ar} (TG : Tab G g) (TH : Tab H h) (RG : RightA g) : listOf (thenT G H) = compA g h := by
  have W := thenTo_tw TG.val TH.val 216 (by omega)
  have key : ∀ m, m < 36 → ((gd (thenT G H) m != 0) = meets g h (pA m) (pB m)) ∧ ((gd (thenT G H) m == 2) = meetsS g h (pA m) (pB m)) := by
    intro m hm
    have hm2 : 6 * (m / 6) + m % 6 = m := by omega
    have h1 := W.any (m / 6) (m % 6) (by omega) (by omega)
    have h2 := W.str (m / 6) (m % 6) (by omega) (by omega)
    rw [hm2] at h1 h2
    unfold thenT
    constructor
    · rw [Bool.eq_iff_iff, bne_iff_ne, h1, meets_iff]
      constructor
      · rintro ⟨o, ho, _, q1, q2⟩
        obtain ⟨x, hx, x1, x2⟩ := (TG.any (m / 6) o (by omega) ho).1 q1
        obtain ⟨y, hy, y1, y2⟩ := (TH.any o (m % 6) ho (by omega)).1 q2
        exact ⟨x, hx, y, hy, x1, by rw [x2, y1], y2⟩
      · rintro ⟨x, hx, y, hy, x1, x2, y2⟩
        obtain ⟨a, o, ha, ho, e1, e2⟩ := RG.places hx
        exact ⟨o, ho, by omega, (TG.any (m / 6) o (by omega) ho).2 ⟨x, hx, x1, e2⟩, (TH.any o (m % 6) ho (by omega)).2 ⟨y, hy, by rw [← x2, e2], y2⟩⟩
    · rw [Bool.eq_iff_iff, beq_iff_eq, h2, meetsS_iff]
      constructor
      · rintro ⟨o, ho, _, q1, q2, q3⟩
        obtain ⟨x, hx, x1, x2⟩ := (TG.any (m / 6) o (by omega) ho).1 q1
        obtain ⟨y, hy, y1, y2⟩ := (TH.any o (m % 6) ho (by omega)).1 q2
        rcases q3 with q3 | q3
        · obtain ⟨x', hx', x1', x2', x3'⟩ := (TG.str (m / 6) o (by omega) ho).1 q3
          exact ⟨x', hx', y, hy, x1', by rw [x2', y1], y2, .inl x3'⟩
        · obtain ⟨y', hy', y1', y2', y3'⟩ := (TH.str o (m % 6) ho (by omega)).1 q3
          exact ⟨x, hx, y', hy', x1, by rw [x2, y1'], y2', .inr y3'⟩
      · rintro ⟨x, hx, y, hy, x1, x2, y2, hs⟩
        obtain ⟨a, o, ha, ho, e1, e2⟩ := RG.places hx
        refine ⟨o, ho, by omega, (TG.any (m / 6) o (by omega) ho).2 ⟨x, hx, x1, e2⟩, (TH.any o (m % 6) ho (by omega)).2 ⟨y, hy, by rw [← x2, e2], y2⟩, ?_⟩
        rcases hs with hs | hs
        · exact .inl ((TG.str (m / 6) o (by omega) ho).2 ⟨x, hx, x1, e2, hs⟩)
        · exact .inr ((TH.str o (m % 6) ho (by omega)).2 ⟨y, hy, by rw [← x2, e2], y2, hs⟩)
  unfold listOf listTo compA arcsTo
  rw [List.filter_congr (q := fun m => meets g h (pA m) (pB m)) (fun m hm => (key m (List.mem_range.1 hm)).1)]
  refine List.map_congr_left fun m hm => ?_
  rw [List.mem_filter, List.mem_range] at hm
  unfold cellArc arcOf
  rw [(key m hm.1).2]

theorem gd_ext {L M : List Int} (hL : L.length = 36) (hM : M.length = 36) (h : ∀ m, m < 36 → gd L m = gd M m) : L = M := by
  refine List.ext_getElem (by omega) fun i h1 h2 => ?_
  have := h i (by omega)
  unfold gd at this
  simpa [List.getD_eq_getElem?_getD, List.getElem?_eq_getElem h1, List.getElem?_eq_getElem h2] using this
theorem listOf_inj {L M : List Int} (hL : L.length = 36) (hM : M.length = 36) (vL : ∀ m, gd L m = 0 ∨ gd L m = 1 ∨ gd L m = 2) (vM : ∀ m, gd M m = 0 ∨ gd M m = 1 ∨ gd M m = 2) (h : listOf L = listOf M) : L = M := by
  have half : ∀ {L M : List Int}, listOf L = listOf M → ∀ m, m < 36 → gd L m ≠ 0 → gd M m ≠ 0 ∧ ((gd L m == 2) = (gd M m == 2)) := by
    intro L M h m hm hne
    have h1 : cellArc L m ∈ listOf M := by rw [← h, mem_listOf]; exact ⟨m, hm, hne, rfl⟩
    obtain ⟨k, hk, h2, h3⟩ := mem_listOf.1 h1
    unfold cellArc pA pB at h3
    injection h3 with e1 e2 e3
    obtain rfl : m = k := by omega
    exact ⟨h2, e3⟩
  refine gd_ext hL hM fun m hm => ?_
  have hL2 := vL m
  have hM2 := vM m
  by_cases h0 : gd L m = 0
  · by_cases h1 : gd M m = 0
    · omega
    · exact absurd h0 (half h.symm m hm h1).1
  · obtain ⟨h1, h2⟩ := half h m hm h0
    rw [Bool.eq_iff_iff, beq_iff_eq, beq_iff_eq] at h2
    omega
theorem thenT_same {G : List Int} {g : List Ar} (T : Tab G g) (R : RightA g) : thenT G G = G ↔ compA g g = g := by
  constructor
  · intro h
    have := thenT_list T T R
    rw [h, T.list R] at this
    exact this.symm
  · intro h
    refine listOf_inj (thenTo_len _ _ _) T.len (thenTo_tw T.val T.val 216 (by omega)).val T.val ?_
    rw [thenT_list T T R, h, T.list R]
theorem falls_diag {G : List Int} {g : List Ar} (T : Tab G g) (R : RightA g) : (∃ n, n < 6 ∧ gd G (6 * n + n) = 2) ↔ ∃ x ∈ g, x.s = true ∧ x.a = x.b := by
  constructor
  · rintro ⟨n, hn, h⟩
    obtain ⟨x, hx, h1, h2, h3⟩ := (T.str n n hn hn).1 h
    exact ⟨x, hx, h3, by rw [h1, h2]⟩
  · rintro ⟨x, hx, h3, h4⟩
    obtain ⟨a, b, ha, hb, e1, e2⟩ := R.places hx
    exact ⟨a, ha, (T.str a a ha ha).2 ⟨x, hx, e1, by rw [← h4, e1], h3⟩⟩

end Go.Proofs.Ytgjmefcognoepaa.Pr
