/-
  THE WALK over spec.TermSize; laws.FnExactTermSize answers true.
-/
import Derived.Test.YtmjjofjhnjkgmaaDoorSize
namespace Go.Proofs.YtmjjofjhnjkgmaaDoor
open Go Go.RowKit

theorem parts_kids {l : List UInt8} {t : Tm} (h : rdAll l = some t) : (partsOf l).2 = t.kids.map Tm.text := by
  unfold partsOf
  rw [h]
  cases t with
  | num n => rfl
  | sym b => rfl
  | con name args => rfl
theorem kids_read {l : List UInt8} {t a : Tm} (h : rdAll l = some t) (ha : a ∈ t.kids) : rdAll a.text = some a ∧ a.text.length < l.length := by
  obtain ⟨hw, hx, hl⟩ := rdAll_sound h
  have h1 := kids_len ha
  rw [hx] at h1
  exact ⟨rdAll_text (kids_wf hw a ha) (by omega), h1⟩

/-- What the loop over the arguments holds. -/
def PartsRel (w : World) (xs : List ByteArray) (ts : List Tm) (rb : Nat) (vs : Value) (v4 v5 : Value) (wr : World) : Prop :=
  ∃ k : Nat, v5 = .int .i64 (k : Int) ∧ k ≤ xs.length ∧ v4 = .int .i64 (1 + (sizes (ts.take k) : Int)) ∧ wr.ownsRow rb 9 1 vs xs.length (strCells xs) ∧ Below w.heap.size w wr

def SizeSaid (f : Nat) : Prop := ∀ (s : ByteArray) (w : World), s.size < f → s.size ≤ 140737488351232 → Calls Tryd.prog 36 #[.string s] w fun e w' => e = .returned (.int .i64 (sz (lst s) : Int)) ∧ Below w.heap.size w w'

set_option maxRecDepth 100000 in
set_option maxHeartbeats 2000000 in
theorem specSize_step (f : Nat) (ih : SizeSaid f) : SizeSaid (f + 1) := by
  intro s w hf hlim
  have hls := lst_len s
  have IH := Lib.hid ih
  clear ih
  cases hr : rdAll (lst s) with
  | none =>
    have hk : iKind (lst s) = 0 := by unfold iKind; rw [hr]
    have HK := Lib.hid hk
    have HZ := Lib.hid (sz_none hr)
    clear hr hk
    go_enter Tryd.func36, Tryd.ntmps36
    go_wp2_with fail
    refine (specTermKind s hlim _).mono ?_
    rintro e w1 ⟨rfl, hb1⟩
    rw [HK.out]
    go_wp2
    go_ret
    rw [HZ.out]
    exact ⟨rfl, hb1⟩
  | some t =>
    obtain ⟨hw, hx, hl⟩ := rdAll_sound hr
    have hk : iKind (lst s) = t.kind := by unfold iKind; rw [hr]
    have HK := Lib.hid hk
    have HZ := Lib.hid (sz_some hr)
    have hsz := size_le hw
    have hsk := size_kids t
    have hb0 : (t.kind == 0) = false := beq_eq_false_iff_ne.2 (kind_pos t)
    have HPK := Lib.hid (parts_kids hr)
    have HKR := Lib.hid (fun (a : Tm) (ha : a ∈ t.kids) => kids_read hr ha)
    have hsb : 1 + sizes t.kids ≤ 200 := by rw [hx] at hsz; omega
    have HSK := Lib.hid hsk
    have hkc := kids_count hw
    rw [hx] at hkc
    clear hk hr hw hx hsk hsz
    go_enter Tryd.func36, Tryd.ntmps36
    go_wp2_with fail
    refine (specTermKind s hlim _).mono ?_
    rintro e w1 ⟨rfl, hb1⟩
    rw [HK.out]
    generalize t.kind = y at *
    go_wp2_with fail
    refine (specTermParts s hlim _).mono ?_
    rintro e w2 ⟨nm, xs, v, rfl, hpo, hown, hb2⟩
    have hxs : xs.map lst = t.kids.map Tm.text := by rw [← HPK.out, hpo]
    have hlen : xs.length = t.kids.length := by have := congrArg List.length hxs; simpa using this
    have HXS := Lib.hid hxs
    have HLEN := Lib.hid hlen
    have hxn : xs.length ≤ 200 := by omega
    have hb12 := hb1.trans (hb2.mono hb1.size)
    obtain ⟨av, cv, rfl⟩ := owns_shape hown
    clear hxs hlen hpo hb1 hb2
    go_wp2
    go_loopw [5, 6] (fun v4 v5 wr => PartsRel w xs t.kids w1.heap.size (.slice av xs.length cv) v4 v5 wr) (fun _ v _ => (xs.length - (intOf v).toNat))
    case atStart => exact ⟨0, rfl, Nat.zero_le _, by rw [List.take_zero, sizes]; rfl, hown, hb12⟩
    case round =>
      obtain ⟨k, rfl, hk, rfl, hownr, hbr⟩ := hrel
      have hst := sizes_take_le t.kids k
      by_cases hlt : k < xs.length
      · have hltk : k < t.kids.length := by have := HLEN.out; omega
        obtain ⟨g, cap, hgv, _, _⟩ := hownr.form (by omega)
        simp only [Value.slice.injEq, true_and] at hgv
        obtain ⟨rfl, rfl⟩ := hgv
        have hx : wr.cell? ⟨g, k, none⟩ = some (.string xs[k]) := by
          rw [hownr.cellAt k (by omega)]
          simp [strCells, hlt]
        have hxt : lst xs[k] = (t.kids[k]).text := by
          have := congrArg (fun l => l[k]?) HXS.out
          simpa [hlt, hltk] using this
        obtain ⟨hrd, hll⟩ := HKR.out t.kids[k] (List.getElem_mem hltk)
        rw [← hxt] at hrd hll
        have hxl := lst_len xs[k]
        have HSZ := Lib.hid (sz_some hrd)
        have hstk := sizes_take hltk
        have hle2 := sizes_take_le t.kids (k + 1)
        have Z : ∀ w3, Below wr.heap.size wr w3 → PartsRel w xs t.kids w1.heap.size (.slice (some ⟨g, 0, none⟩) xs.length cv) (.int .i64 (1 + (sizes (t.kids.take k) : Int) + (t.kids[k].size : Int))) (.int .i64 ((k : Int) + 1)) w3 := fun w3 hb3 =>
          ⟨k + 1, by go_num, by omega, by
            rw [hstk]
            congr 1
            omega, by
            have hg3 : wr.grownBy w3 none := ⟨hb3.os, hb3.tape, hb3.output, hb3.size, fun k hk _ => hb3.block k hk⟩
            exact hownr.kept hg3 (.inr (by simp [Value.ownBlock])), hbr.trans (hb3.mono hbr.size)⟩
        have HZ2 := Lib.hid Z
        have hsk2 : sizes (t.kids.take k) + t.kids[k].size ≤ 200 := by omega
        clear Z hstk hle2 hbr hownr hrd hxt
        generalize xs[k] = x at *
        generalize t.kids[k].size = z at *
        generalize sizes (t.kids.take k) = y2 at *
        go_wp2_with fail
        refine (IH.out x wr (by omega) (by omega)).mono ?_
        rintro e w3 ⟨rfl, hb3⟩
        rw [HSZ.out]
        have HR := Lib.hid (HZ2.out w3 hb3)
        clear hb3 HSZ HZ2
        go_wp2
        go_roundw
        case rel => exact HR.out
        case measure => simp [intOf]; omega
      · have hlt2 : decide ((k : Int) < (xs.length : Int)) = false := decide_eq_false (by omega)
        have htk : t.kids.take k = t.kids := List.take_of_length_le (by have := HLEN.out; omega)
        rw [htk]
        have e : (1 + (sizes t.kids : Int)) = (sz (lst s) : Int) := by have := HSK.out; rw [HZ.out]; omega
        have HEE := Lib.hid e
        clear htk e hownr
        go_wp2
        go_ret
        exact ⟨congrArg (fun z : Int => Ending.returned (.int .i64 z)) HEE.out, hbr⟩

/-- spec.TermSize answers as impl.TermSize. -/
theorem specTermSize (s : ByteArray) (hlim : s.size ≤ 140737488351232) (w : World) :
    Calls Tryd.prog 36 #[.string s] w fun e w' => e = .returned (.int .i64 (sz (lst s) : Int)) ∧ Below w.heap.size w w' := by
  have h : ∀ f, SizeSaid f := fun f => by
    induction f with
    | zero => intro s w hf; omega
    | succ f ih => exact specSize_step f ih
  exact h (s.size + 1) s w (by omega) hlim

set_option maxRecDepth 100000 in
set_option maxHeartbeats 1000000 in
theorem law_FnExactTermSize (s : ByteArray) (hlim : s.size ≤ 140737488351232) (w : World) (hE : Env w.heap.size w) :
    Calls Tryd.prog 9 #[.string s] w fun e w' => e = .returned (.bool true) ∧ Below w.heap.size w w' := by
  by_cases hbig : s.size ≤ 1048576
  · have hd : decide ((1048576 : Int) < (s.size : Int)) = false := decide_eq_false (by omega)
    have hd' : decide (1048576 < s.size) = false := decide_eq_false (by omega)
    go_enter Tryd.func9, Tryd.ntmps9
    go_wp2_with fail
    refine (specTermSize s hlim _).mono ?_
    rintro e w1 ⟨rfl, hb1⟩
    have hE1 : Env w1.heap.size w1 := (hE.stays hb1).top
    go_wp2_with fail
    refine (implTermSize s hlim _ hE1).mono ?_
    rintro e w2 ⟨rfl, hb2⟩
    have hb := hb1.trans (hb2.mono hb1.size)
    clear hb1 hb2
    generalize sz (lst s) = y at *
    go_wp2
    go_ret
    exact ⟨rfl, hb⟩
  · have hd : decide ((1048576 : Int) < (s.size : Int)) = true := decide_eq_true (by omega)
    have hd' : decide (1048576 < s.size) = true := decide_eq_true (by omega)
    go_enter Tryd.func9, Tryd.ntmps9
    go_wp2
    go_ret
    exact ⟨rfl, Below.refl _ _⟩

end Go.Proofs.YtmjjofjhnjkgmaaDoor
