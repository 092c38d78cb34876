/-
  The reference's l04List.
-/
import Derived.Test.YtdcfhmbnbfmnbaaPJ4
namespace Go.Proofs.Ytdcfhmbnbfmnbaa.Pr
open Go Go.RowKit Go.Maps Go.WideMaps

def listT (xs : List BA) : BA := txtL ⟨#[44, 32]⟩ false (xs.map Nd.word)
theorem listT_snoc (xs : List BA) (k : Nat) (h : k < xs.length) : listT (xs.take (k + 1)) = (if 0 < k then listT (xs.take k) ++ ⟨#[44, 32]⟩ else listT (xs.take k)) ++ xs[k] := by
  unfold listT
  rw [List.take_succ_eq_append_getElem h, List.map_append]
  show txtL _ false (_ ++ [Nd.word xs[k]]) = _
  rw [txtL_snoc]
  have e : ((xs.take k).map Nd.word).isEmpty = !decide (0 < k) := by
    rw [List.isEmpty_map]
    cases k with
    | zero => rfl
    | succ k =>
      cases xs with
      | nil => simp at h
      | cons a l => simp
  rw [e, txt]
  by_cases hk : 0 < k
  · simp [hk, ByteArray.append_assoc]
  · simp [hk, empty_ba]
theorem listT_mono (xs : List BA) : ∀ (d k : Nat), k + d ≤ xs.length → (listT (xs.take k)).size ≤ (listT (xs.take (k + d))).size
  | 0, k, _ => Nat.le_refl _
  | d + 1, k, h => by
    refine Nat.le_trans (listT_mono xs d k (by omega)) ?_
    rw [show k + (d + 1) = (k + d) + 1 from by omega, listT_snoc xs (k + d) (by omega)]
    split <;> simp only [ByteArray.size_append] <;> omega

/-- What l04List answers: all of it, or more than there is room for. -/
def CutOf (L r : BA) : Prop := r.size ≤ 1060000 ∧ (r = L ∨ (3000 < r.size ∧ 3000 < L.size))
def LLRel (xs : List BA) (w : World) (v3 v4 : Value) (wr : World) : Prop :=
  ∃ k : Nat, v4 = .int .i64 (k : Int) ∧ v3 = .string (listT (xs.take k)) ∧ k ≤ xs.length ∧ (listT (xs.take k)).size ≤ 1060000 ∧ Below w.heap.size w wr

set_option maxRecDepth 100000 in
set_option maxHeartbeats 4000000 in
theorem specList_any (xs : List BA) (a : Option Addr) (cap : Nat) (S : Nat → Prop) (w : World) (hx : TxtsIn S w a xs) (hS : ∀ b, S b → b < w.heap.size) (hl : ∀ x ∈ xs, x.size ≤ 1048576) (hn : xs.length ≤ 1048576) :
    Calls Try.prog 18 #[.slice a xs.length cap] w fun e w' => (∃ r : BA, e = .returned (.string r) ∧ CutOf (listT xs) r) ∧ Below w.heap.size w w' := by
  have HX := Lib.hid hx
  have HS := Lib.hid hS
  have HL := Lib.hid hl
  clear hx hS hl
  go_enter Try.func18, Try.ntmps18
  go_wp2
  go_loopw [3, 4] (fun v3 v4 wr => LLRel xs w v3 v4 wr) (fun _ v4 _ => (xs.length - (intOf v4).toNat))
  case atStart => exact ⟨0, rfl, rfl, Nat.zero_le _, by rw [List.take_zero]; decide, Below.refl _ _⟩
  case round =>
    obtain ⟨k, rfl, rfl, hk, hsz, hb⟩ := hrel
    by_cases hlt : k < xs.length
    · have hd : decide ((k : Int) < (xs.length : Int)) = true := decide_eq_true (by omega)
      have hd0 : decide (k < xs.length) = true := decide_eq_true hlt
      by_cases hbig : 3000 < (listT (xs.take k)).size
      · have HP := Lib.hid (show (∃ r : BA, Ending.returned (.string (listT (xs.take k))) = .returned (.string r) ∧ CutOf (listT xs) r) ∧ Below w.heap.size w wr from ⟨⟨_, rfl, hsz, .inr ⟨hbig, by
          have h1 := listT_mono xs (xs.length - k) k (by omega)
          rw [show k + (xs.length - k) = xs.length from by omega, List.take_length] at h1
          omega⟩⟩, hb⟩)
        obtain ⟨A, hA⟩ : ∃ A, A = listT (xs.take k) := ⟨_, rfl⟩
        rw [← hA] at HP hbig ⊢
        have h1 : decide ((A.size : Int) ≤ 3000) = false := decide_eq_false (by omega)
        have h2 : decide (A.size ≤ 3000) = false := decide_eq_false (by omega)
        clear hsz hb hA
        go_wp2
        go_ret
        exact HP.out
      · obtain ⟨b, off, rfl, hSb, hcc⟩ := HX.out.kept (Same.below HS.out hb) k hlt
        have hxl := HL.out _ (List.getElem_mem hlt)
        have hsn := listT_snoc xs k hlt
        obtain ⟨A, hA⟩ : ∃ A, A = listT (xs.take k) := ⟨_, rfl⟩
        obtain ⟨x, hx⟩ : ∃ x, xs[k] = x := ⟨_, rfl⟩
        rw [← hA, hx] at hsn
        rw [hx] at hcc hxl
        rw [← hA] at hsz hbig ⊢
        have h1 : decide ((A.size : Int) ≤ 3000) = true := decide_eq_true (by omega)
        have h2 : decide (A.size ≤ 3000) = true := decide_eq_true (by omega)
        by_cases hk0 : 0 < k
        · rw [if_pos hk0] at hsn
          have h3 : decide ((0 : Int) < (k : Int)) = true := decide_eq_true (by omega)
          have h4 : decide (0 < k) = true := decide_eq_true hk0
          have hs2 : (A ++ (⟨#[44, 32]⟩ : BA)).size = A.size + 2 := by rw [ByteArray.size_append]; rfl
          have HN := Lib.hid (show LLRel xs w (.string (A ++ ⟨#[44, 32]⟩ ++ x)) (.int .i64 ((k : Int) + 1)) wr from ⟨k + 1, by go_num, by rw [hsn], by omega, by rw [hsn, ByteArray.size_append]; omega, hb⟩)
          have n1 : ¬ (9223372036854775807 < A.size + 2) := by omega
          have n2 : ¬ (9223372036854775807 < A.size + 2 + x.size) := by omega
          have n3 : ¬ (9223372036854775807 < (A ++ (⟨#[44, 32]⟩ : BA)).size + x.size) := by omega
          clear hsz hb hA hsn hSb hxl hbig hs2 hx
          go_wp2
          go_roundw
          case rel => exact HN.out
          case measure => simp [intOf]; omega
        · rw [if_neg hk0] at hsn
          have h3 : decide ((0 : Int) < (k : Int)) = false := decide_eq_false (by omega)
          have h4 : decide (0 < k) = false := decide_eq_false hk0
          have HN := Lib.hid (show LLRel xs w (.string (A ++ x)) (.int .i64 ((k : Int) + 1)) wr from ⟨k + 1, by go_num, by rw [hsn], by omega, by rw [hsn, ByteArray.size_append]; omega, hb⟩)
          have n2 : ¬ (9223372036854775807 < A.size + x.size) := by omega
          have HK0 := Lib.hid hk0
          clear hsz hb hA hsn hSb hxl hbig hk0 hx
          go_wp2
          go_roundw
          case rel => exact HN.out
          case measure => simp [intOf]; omega
    · obtain rfl : k = xs.length := by omega
      rw [List.take_length] at hsz ⊢
      have hd : decide ((xs.length : Int) < (xs.length : Int)) = false := decide_eq_false (by omega)
      have HP := Lib.hid (show (∃ r : BA, Ending.returned (.string (listT xs)) = .returned (.string r) ∧ CutOf (listT xs) r) ∧ Below w.heap.size w wr from ⟨⟨_, rfl, hsz, .inl rfl⟩, hb⟩)
      obtain ⟨A, hA⟩ : ∃ A, A = listT xs := ⟨_, rfl⟩
      rw [← hA]
      have HA := Lib.hid hA
      clear hsz hb hA
      go_wp2
      go_ret
      rw [← HA.out] at HP ⊢
      exact HP.out

end Go.Proofs.Ytdcfhmbnbfmnbaa.Pr
