/-
  THE WALKS over the drawing of texts: once, any, DrawTermKind.
-/
import Derived.Test.YtkhliflgflhheaaDoorDrawTm
import Derived.Deep.RegionHeld3
namespace Go.Proofs.YtkhliflgflhheaaDoor
open Go Go.RowKit Go.Maps Go.WideMaps

set_option maxRecDepth 100000 in
set_option maxHeartbeats 1000000 in
theorem once_any {w0 : World} {c : Nat} {a : Option Addr} {len cap N : Nat} (n : Nat) (hn : 2 ≤ n) (hn2 : n ≤ 1000) (hN : N ≤ 100000) (w : World) (hC : CurAt w0 w c a len cap N) :
    Calls Tryd.prog 56 #[.pointer (some ⟨c, 0, none⟩), .int .i64 (n : Int)] w fun e w' => ∃ b : Bool, e = .returned (.bool b) ∧ CurAt w0 w' c a len cap (N + 1) ∧ ∀ j : Nat, j ≠ c → w'.heap[j]? = w.heap[j]? := by
  go_enter Tryd.func56, Tryd.ntmps56
  go_wp2_with fail
  refine (pick_any n hn hn2 hN _ hC).mono ?_
  rintro e w1 ⟨r, hr, rfl, hC1, ho1⟩
  have HC1 := Lib.hid hC1
  have HO1 := Lib.hid ho1
  clear hC hC1 ho1
  go_wp2
  go_ret
  exact ⟨_, rfl, HC1.out, HO1.out⟩

theorem wf_pos {t : Tm} (h : Wf t) : 1 ≤ t.text.length := by
  have := size_le h
  have := size_kids t
  omega

/-- What drawing a text answers. -/
def AnyAns (w0 : World) (c : Nat) (a : Option Addr) (len cap N : Nat) (w : World) (e : Ending) (w' : World) : Prop :=
  ∃ s : ByteArray, e = .returned (.string s) ∧ s.size ≤ 210 ∧ CurAt w0 w' c a len cap (N + 30) ∧ Kept c w w'

def bads : Array Value := #[Value.string ⟨#[]⟩, Value.string ⟨#[48, 49]⟩, Value.string ⟨#[45, 48]⟩, Value.string ⟨#[49, 48, 48, 48, 48, 48, 49]⟩, Value.string ⟨#[120]⟩, Value.string ⟨#[78, 105, 108, 40, 41]⟩, Value.string ⟨#[78, 105, 108, 40]⟩, Value.string ⟨#[67, 111, 110, 115, 40, 49, 44, 41]⟩, Value.string ⟨#[67, 111, 110, 115, 40, 49]⟩, Value.string ⟨#[34, 97]⟩, Value.string ⟨#[97, 34]⟩, Value.string ⟨#[34, 97, 34, 98, 34]⟩, Value.string ⟨#[34, 92, 34]⟩, Value.string ⟨#[83, 32, 40, 49, 41]⟩, Value.string ⟨#[83, 40, 49, 41, 41]⟩, Value.string ⟨#[83, 40, 120, 41]⟩, Value.string ⟨#[65, 98, 99, 100, 101, 102, 103, 104, 105, 106, 107, 108, 109, 110, 111, 112, 113, 114, 115, 116, 117]⟩, Value.string ⟨#[34, 97, 98, 99, 100, 101, 102, 103, 104, 105, 106, 107, 108, 109, 110, 111, 112, 113, 114, 115, 116, 117, 34]⟩, Value.string ⟨#[45]⟩, Value.string ⟨#[45, 45, 49]⟩, Value.string ⟨#[65, 95, 49, 40, 34, 41, 44, 40, 34, 41]⟩, Value.string ⟨#[43, 49]⟩]
def signs : Array Value := #[Value.string ⟨#[40]⟩, Value.string ⟨#[41]⟩, Value.string ⟨#[44]⟩, Value.string ⟨#[34]⟩, Value.string ⟨#[49]⟩, Value.string ⟨#[32]⟩]
def smallStr : Value → Bool
  | .string s => decide (s.size ≤ 30)
  | _ => false
theorem small_at {A : Array Value} {n : Nat} (hn : A.size = n) (h : A.toList.all smallStr = true) (r : Nat) (hr : r < n) : ∃ s : ByteArray, A[r]? = some (.string s) ∧ s.size ≤ 30 := by
  have hr' : r < A.size := by omega
  have hm : A[r] ∈ A.toList := by simp
  have h2 := List.all_eq_true.1 h _ hm
  cases hv : A[r] with
  | string s => rw [hv] at h2; exact ⟨s, by rw [Array.getElem?_eq_getElem hr', hv], by simpa [smallStr] using h2⟩
  | _ => rw [hv] at h2; simp [smallStr] at h2
theorem bads_at (r : Nat) (hr : r < 22) : ∃ s : ByteArray, bads[r]? = some (.string s) ∧ s.size ≤ 30 := small_at rfl (by decide) r hr
theorem signs_at (r : Nat) (hr : r < 6) : ∃ s : ByteArray, signs[r]? = some (.string s) ∧ s.size ≤ 30 := small_at rfl (by decide) r hr

def strSz : Value → Nat
  | .string s => s.size
  | _ => 0

def GrowRel (w3 : World) (v : Value) (wr : World) : Prop := ∃ s : ByteArray, v = .string s ∧ s.size ≤ 203 ∧ wr = w3

set_option maxRecDepth 100000 in
set_option maxHeartbeats 2000000 in
theorem any_any (w0 : World) (c : Nat) (a : Option Addr) (len cap N : Nat) (w : World) (hN : N ≤ 70000) (hC : CurAt w0 w c a len cap N) :
    Calls Tryd.prog 31 #[.pointer (some ⟨c, 0, none⟩)] w (AnyAns w0 c a len cap N w) := by
  go_enter Tryd.func31, Tryd.ntmps31
  go_wp2_with fail
  refine (term2 70000 (by omega) w0 c a len cap N w (by omega) hC).mono ?_
  rintro e w1 ⟨s, t, rfl, hs, hn, hz, hC1, hK1⟩
  have hpos : 1 ≤ s.size := by
    have := wf_pos hn.wf
    rw [← hs, lst_len] at this
    exact this
  have h200 : decide ((200 : Int) < (s.size : Int)) = false := decide_eq_false (by omega)
  have h200' : decide (200 < s.size) = false := decide_eq_false (by omega)
  clear hs hn hC
  go_wp2_with fail
  refine (once_any 5 (by omega) (by omega) (by omega) _ hC1).mono ?_
  rintro e w2 ⟨b, rfl, hC2, ho2⟩
  have hK2 := hK1.trans (Kept.of_only hC2 ho2)
  clear hC1 hK1 ho2
  cases b with
  | false =>
    have HF : AnyAns w0 c a len cap N w (.returned (.string s)) w2 := ⟨s, rfl, by omega, hC2.more (by omega), hK2⟩
    have HFF := Lib.hid HF
    clear HF hC2 hK2
    go_wp2
    go_ret
    exact HFF.out
  | true =>
    go_wp2_with fail
    refine (pick_any 3 (by omega) (by omega) (by omega) _ hC2).mono ?_
    rintro e w3 ⟨r, hr, rfl, hC3, ho3⟩
    have hK3 := hK2.trans (Kept.of_only hC3 ho3)
    have hcl := hC3.lt
    clear hC2 hK2 ho3
    rcases (show r = 0 ∨ r = 1 ∨ r = 2 from by omega) with rfl | rfl | rfl
    · have hC3' := hC3.kept ((Below.refl w3.heap.size w3).alloc (Nat.le_refl _) (Obj.cells bads 9))
      have hK3' := hK3.trans (Kept.of_alloc c w3 (Obj.cells bads 9))
      go_wp2_with fail
      refine (pick_any 22 (by omega) (by omega) (by omega) _ hC3').mono ?_
      rintro e w4 ⟨r2, hr2, rfl, hC4, ho4⟩
      have hrow := (ho4 w3.heap.size (by omega)).trans (heap_alloc_new w3 _)
      obtain ⟨u, hu, hu1⟩ := bads_at r2 hr2
      have hx : w4.cell? ⟨w3.heap.size, r2, none⟩ = some (.string u) := by rw [cell_of_row w4 _ _ _ _ _ hrow]; exact hu
      have HF : AnyAns w0 c a len cap N w (.returned (.string u)) w4 := ⟨u, rfl, by omega, hC4.more (by omega), hK3'.trans (Kept.of_only hC4 ho4)⟩
      have HFF := Lib.hid HF
      clear HF hC3 hC3' hC4 hK3 hK3' ho4 hrow hu
      go_wp2
      go_ret
      exact HFF.out
    · have hp := pick_any (s.size + 1) (by omega) (by omega) (by omega) _ hC3
      rw [show ((s.size + 1 : Nat) : Int) = (s.size : Int) + 1 from by omega] at hp
      have HP := Lib.hid hp
      clear hp
      go_wp2_with fail
      refine HP.out.mono ?_
      rintro e w4 ⟨k, hk, rfl, hC4, ho4⟩
      have hK4 := hK3.trans (Kept.of_only hC4 ho4)
      have hcl4 := hC4.lt
      have HPK := Lib.hid (fun (W : World) (hW : Below w4.heap.size w4 W) => pick_any 6 (by omega) (by omega) (by omega) W (hC4.kept hW))
      have HF : ∀ (s' : ByteArray) (W w5 w6 : World) (_ : Below w4.heap.size w4 W) (_ : CurAt w0 w5 c a len cap (N + 30)) (_ : ∀ j : Nat, j ≠ c → w5.heap[j]? = W.heap[j]?) (_ : Below w5.heap.size w5 w6), s'.size ≤ 210 → AnyAns w0 c a len cap N w (.returned (.string s')) w6 := fun s' W w5 w6 hW hC5 ho5 h6 h => ⟨s', rfl, h, hC5.kept h6, (hK4.trans (.of_below hW)).trans ((Kept.of_only hC5 ho5).trans (.of_below h6))⟩
      have HFF := Lib.hid HF
      have hk0 : (0 : Int) ≤ (k : Int) := by omega
      have hk1 : (k : Int) ≤ (s.size : Int) := by omega
      clear HF HP hC3 hK3 ho4 hC4 hK4
      go_wp2_with fail
      go_region_with
        (first
          | (go_at_call 57
             refine (HPK.out _ (by first | exact (Below.refl _ _).drew | exact ((Below.refl _ _).alloc (Nat.le_refl _) _).drew | exact (((Below.refl _ _).drew).alloc (Nat.le_refl _) _).drew)).mono ?_
             rintro e w5 ⟨r2, hr2, rfl, hC5, ho5⟩
             obtain ⟨u, hu, hu1⟩ := signs_at r2 hr2
             have hur : (#[Value.string ⟨#[40]⟩, Value.string ⟨#[41]⟩, Value.string ⟨#[44]⟩, Value.string ⟨#[34]⟩, Value.string ⟨#[49]⟩, Value.string ⟨#[32]⟩] : Array Value)[r2]? = some (.string u) := hu
             have hul : ∀ h, ([Value.string ⟨#[40]⟩, Value.string ⟨#[41]⟩, Value.string ⟨#[44]⟩, Value.string ⟨#[34]⟩, Value.string ⟨#[49]⟩, Value.string ⟨#[32]⟩] : List Value)[r2]'h = .string u := fun h => by
               rw [← Array.getElem?_toList, List.getElem?_eq_getElem h] at hur
               exact Option.some.inj hur
             first
               | (have hx : w5.cell? ⟨w4.heap.size, r2, none⟩ = some (.string u) := by
                    rw [cell_of_row w5 _ _ _ _ _ ((ho5 w4.heap.size (by omega)).trans (heap_alloc_new w4 _))]; exact hu)
               | skip
             have HC5 := Lib.hid hC5
             have HO5 := Lib.hid ho5
             clear hC5 ho5))
      all_goals go_wp2
      all_goals go_ret
      · refine HFF.out _ _ w5 _ (by first | exact (Below.refl _ _).drew | exact ((Below.refl _ _).alloc (Nat.le_refl _) _).drew | exact (((Below.refl _ _).drew).alloc (Nat.le_refl _) _).drew) (HC5.out.more (by omega)) HO5.out (Below.refl _ _) ?_
        simp only [ByteArray.size_append, ByteArray.size_extract]
        omega
      · refine HFF.out _ _ w5 _ (by first | exact (Below.refl _ _).drew | exact ((Below.refl _ _).alloc (Nat.le_refl _) _).drew | exact (((Below.refl _ _).drew).alloc (Nat.le_refl _) _).drew) (HC5.out.more (by omega)) HO5.out ((Below.refl _ _).alloc (Nat.le_refl _) _) ?_
        simp only [ByteArray.size_append, ByteArray.size_extract]
        omega
    · have HF : ∀ s' : ByteArray, s'.size ≤ 210 → AnyAns w0 c a len cap N w (.returned (.string s')) w3 := fun s' h => ⟨s', rfl, h, hC3.more (by omega), hK3⟩
      have HFF := Lib.hid HF
      clear HF hC3 hK3
      go_wp2
      go_loopw [3] (fun v wr => GrowRel w3 v wr) (fun v _ => 300 - strSz v)
      case atStart => exact ⟨s, rfl, by omega, rfl⟩
      case round =>
        obtain ⟨x, rfl, hx, rfl⟩ := hrel
        by_cases hl : x.size ≤ 200
        · have hd : decide ((x.size : Int) ≤ 200) = true := decide_eq_true (by omega)
          have HR := Lib.hid (show GrowRel wr (.string (⟨#[83, 40]⟩ ++ x ++ ⟨#[41]⟩)) wr from ⟨_, rfl, by
            simp only [ByteArray.size_append]
            have e1 : (⟨#[83, 40]⟩ : ByteArray).size = 2 := rfl
            have e2 : (⟨#[41]⟩ : ByteArray).size = 1 := rfl
            omega, rfl⟩)
          have HM := Lib.hid (show 300 - strSz (.string (⟨#[83, 40]⟩ ++ x ++ ⟨#[41]⟩)) < 300 - strSz (.string x) by
            simp only [strSz, ByteArray.size_append]
            have e1 : (⟨#[83, 40]⟩ : ByteArray).size = 2 := rfl
            have e2 : (⟨#[41]⟩ : ByteArray).size = 1 := rfl
            omega)
          go_wp2
          go_roundw
          case rel => exact HR.out
          case measure => exact HM.out
        · have hd : decide ((x.size : Int) ≤ 200) = false := decide_eq_false (by omega)
          go_wp2
          go_ret
          exact HFF.out _ (by omega)

set_option maxRecDepth 100000 in
set_option maxHeartbeats 1000000 in
theorem drawTermKind_any {a : Option Addr} {len cap : Nat} (w : World) (hcode : CodeAt w a len) :
    Calls Tryd.prog 9 #[.slice a len cap] w fun e w' => ∃ s : ByteArray, e = .returned (.string s) ∧ s.size ≤ 210 ∧ Below w.heap.size w w' := by
  have hln := hcode.1
  have HC := Lib.hid hcode
  clear hcode
  go_enter Tryd.func9, Tryd.ntmps9
  go_wp2_with fail
  refine (open_any _ HC.out).mono ?_
  rintro e w1 ⟨c, rfl, hC1⟩
  go_wp2_with fail
  refine (any_any w c a len cap 0 w1 (by omega) hC1).mono ?_
  rintro e w2 ⟨s, rfl, hs, hC2, _⟩
  have HB := Lib.hid hC2.below
  clear hC1 hC2
  go_wp2
  go_ret
  exact ⟨s, rfl, hs, HB.out⟩

end Go.Proofs.YtkhliflgflhheaaDoor
