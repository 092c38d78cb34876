/-
  THE WALKS over constructorText, text, argTexts, impl.TermParts.
-/
import Derived.Test.YtkhliflgflhheaaDoorDraw
import Derived.Deep.RegionHeld3
import Derived.Test.YtkhliflgflhheaaDoorShelfJ
namespace Go.Proofs.YtkhliflgflhheaaDoor
open Go Go.RowKit Go.Maps Go.WideMaps

/-- What constructorText writes. -/
def conText (nm : List UInt8) (xs : List (List UInt8)) : List UInt8 := if xs = [] then nm else nm ++ 40 :: (Lib.join xs [44] ++ [41])

theorem join_more : ∀ (ts : List Tm), Lib.joinTail [44] (ts.map Tm.text) ++ [41] = moreText ts
  | [] => by rw [moreText]; rfl
  | t :: ts => by
    rw [moreText, ← join_more ts]
    simp [Lib.joinTail]
theorem conText_text (nm : List UInt8) (args : List Tm) : conText nm (args.map Tm.text) = (Tm.con nm args).text := by
  cases args with
  | nil => rw [Tm.text, argText]; simp [conText]
  | cons a as' =>
    rw [Tm.text, argText, ← join_more]
    simp only [conText, List.map_cons, Lib.join_cons]
    rw [if_neg (by simp)]
    simp

set_option maxRecDepth 100000 in
set_option maxHeartbeats 1000000 in
theorem constructorText_any (nm : ByteArray) (xs : List ByteArray) (base : Nat) (v : Value) (w : World) (hown : w.ownsRow base 9 1 v xs.length (strCells xs)) (hn : nm.size ≤ 2000000) (hx : xs.length ≤ 2000000) (hj : (Lib.join (xs.map lst) [44]).length ≤ 5000000) :
    Calls Tryd.prog 41 #[.string nm, v] w fun e w' => (∃ s : ByteArray, e = .returned (.string s) ∧ lst s = conText (lst nm) (xs.map lst)) ∧ Below w.heap.size w w' := by
  cases xs with
  | nil =>
    obtain ⟨av, cv, rfl⟩ := owns_shape hown
    clear hown
    go_enter Tryd.func41, Tryd.ntmps41
    go_wp2
    go_ret
    exact ⟨⟨nm, rfl, rfl⟩, Below.refl _ _⟩
  | cons x r =>
    obtain ⟨g, cap, hgv, hbg, hg⟩ := hown.form (by simp)
    have hcap : (x :: r).length ≤ cap := by
      rcases hown.2 with ⟨_, h0⟩ | ⟨g', cap', cur, hv', _, _, h1, _⟩
      · simp at h0
      · rw [hgv] at hv'
        simp only [Value.slice.injEq] at hv'
        omega
    subst hgv
    have hne : (((x :: r).length : Int) == 0) = false := beq_eq_false_iff_ne.2 (by simp; omega)
    have hcells : ∀ (j : Nat) y, (x :: r)[j]? = some y → w.cell? ⟨g, 0 + j, none⟩ = some (.string y) := fun j y hy => by
      have hlt := (List.getElem?_eq_some_iff.1 hy).1
      rw [Nat.zero_add, hown.cellAt j (by omega)]
      simp only [strCells, List.getElem?_map, hy, Option.map_some]
    generalize hxs : x :: r = xs at *
    have HC := Lib.hid (Tryd.strings_Join g 0 cap xs ⟨#[44]⟩ w hcells hg (by omega) (by omega) (by
      show (Lib.join (xs.map lst) [44]).length ≤ _
      omega))
    have HX := Lib.hid (show xs ≠ [] by rw [← hxs]; simp)
    clear hcells hown hxs
    go_enter Tryd.func41, Tryd.ntmps41
    go_wp2_with fail
    refine HC.out.mono ?_
    rintro e w1 ⟨rfl, hb1⟩
    obtain ⟨y, hy⟩ : ∃ y : ByteArray, y = ⟨(Lib.join (xs.map (·.data.toList)) [44]).toArray⟩ := ⟨_, rfl⟩
    have hly : lst y = Lib.join (xs.map lst) [44] := by rw [hy]; rfl
    have hys : y.size ≤ 5000000 := by have := lst_len y; rw [hly] at this; omega
    have HLY := Lib.hid hly
    rw [show (⟨(Lib.join (xs.map (·.data.toList)) (⟨#[44]⟩ : ByteArray).data.toList).toArray⟩ : ByteArray) = y from hy.symm]
    clear hly HC hy
    go_wp2
    go_ret
    refine ⟨⟨_, rfl, ?_⟩, hb1⟩
    have hz : ∀ a b : ByteArray, lst (a ++ b) = lst a ++ lst b := fun a b => by simp [lst]
    rw [hz, hz, hz, HLY.out, conText, if_neg (by simpa using HX.out)]
    simp [lst]

theorem join_len (ts : List Tm) (h : ts ≠ []) : (Lib.join (ts.map Tm.text) [44]).length + 1 = (argText ts).length - 1 := by
  cases ts with
  | nil => exact absurd rfl h
  | cons a as' =>
    have := congrArg List.length (join_more as')
    rw [List.length_append] at this
    rw [argText, List.map_cons, Lib.join_cons, List.length_cons, List.length_append, List.length_append]
    simp at this
    omega
theorem join_le (nm : List UInt8) (ts : List Tm) : (Lib.join (ts.map Tm.text) [44]).length ≤ (Tm.con nm ts).text.length := by
  cases ts with
  | nil => simp [Lib.join, List.intercalate]
  | cons a as' =>
    have := join_len (a :: as') (by simp)
    rw [Tm.text, List.length_append]
    omega

def TextSaid (base b : Nat) (ns : List Nd) (cs : List Cl) (N : Nat) : Prop := ∀ (i : Nat) (t : Tm), t.text.length < N → At ns cs i t → ∀ (w : World), StoreAt w base b ns cs → Env w.heap.size w → Wf t → t.text.length ≤ 200 →
  Calls Tryd.prog 60 #[.pointer (some ⟨b, 0, none⟩), .int .i64 (i : Int)] w fun e w' => (∃ s : ByteArray, e = .returned (.string s) ∧ lst s = t.text) ∧ Below w.heap.size w w'

/-- What the loop of argTexts holds. -/
def TextsRel (w : World) (is : List Nat) (ts : List Tm) (rb : Nat) (vs : Value) (v5 v12 : Value) (wr : World) : Prop :=
  ∃ (k : Nat) (xs : List ByteArray), v12 = .int .i64 (k : Int) ∧ k ≤ is.length ∧ xs.length = k ∧ xs.map lst = (ts.take k).map Tm.text ∧ wr.ownsRow w.heap.size 9 1 v5 xs.length (strCells xs) ∧
    wr.ownsRow rb 3 1 vs is.length (intCells is) ∧ Below w.heap.size w wr

set_option maxRecDepth 100000 in
set_option maxHeartbeats 2000000 in
theorem argTexts_of {base b : Nat} {ns : List Nd} {cs : List Cl} (hn : ns.length ≤ 900000) (hc : cs.length ≤ 900000) (N : Nat) (ih : TextSaid base b ns cs N) (i : Nat) (t : Tm) (hN : t.text.length ≤ N) (hat : At ns cs i t) (w : World) (hS : StoreAt w base b ns cs) (hE : Env w.heap.size w) (ht : Wf t) (hl : t.text.length ≤ 200) :
    Calls Tryd.prog 34 #[.pointer (some ⟨b, 0, none⟩), .int .i64 (i : Int)] w fun e w' => ∃ (xs : List ByteArray) (v : Value), e = .returned v ∧ xs.map lst = t.kids.map Tm.text ∧ w'.ownsRow w.heap.size 9 1 v xs.length (strCells xs) ∧ Below w.heap.size w w' := by
  obtain ⟨i0, hi0, hz0, hz1, hz2⟩ := info_parts info9
  have IH := Lib.hid ih
  have HAO := Lib.hid (argsOf_any w hS hat ht hl hn hc)
  clear ih
  go_enter Tryd.func34, Tryd.ntmps34
  go_wp2_with fail
  refine HAO.out.mono ?_
  rintro e w1 ⟨v, is, rfl, hats, hown, hb1⟩
  obtain ⟨av, cv, rfl⟩ := owns_shape hown
  have hkc := kids_count ht
  have hlen := hats.1
  have HATS := Lib.hid hats
  have HLEN := Lib.hid hlen
  have hisl : is.length ≤ 200 := by omega
  clear HAO hats hlen
  have HS := Lib.hid hS
  have HE := Lib.hid hE
  clear hS hE
  go_wp2
  go_loopw [5, 12] (fun v5 v12 wr => TextsRel w is t.kids w.heap.size (.slice av is.length cv) v5 v12 wr) (fun _ v12 _ => (is.length - (intOf v12).toNat))
  case atStart => exact ⟨0, [], rfl, Nat.zero_le _, rfl, by rw [List.take_zero]; rfl, World.ownsRow_nil _ _ _ _, hown, hb1⟩
  case round =>
    obtain ⟨k, xs, rfl, hk, hxk0, hxs, hownx, hownr, hbr⟩ := hrel
    have HXK := Lib.hid hxk0
    clear hxk0
    by_cases hlt : k < is.length
    · have hltk : k < t.kids.length := by have := HLEN.out; omega
      obtain ⟨g, cap, hgv, _, _⟩ := hownr.form (by omega)
      simp only [Value.slice.injEq, true_and] at hgv
      obtain ⟨rfl, rfl⟩ := hgv
      have hx : wr.cell? ⟨g, k, none⟩ = some (.int .i64 (is[k] : Int)) := by
        rw [hownr.cellAt k (by omega)]
        simp [intCells, hlt]
      have hmem : t.kids[k] ∈ t.kids := List.getElem_mem _
      have hkl := kids_len hmem
      have hatk := HATS.out.2 k is[k] t.kids[k] (List.getElem?_eq_getElem hlt) (List.getElem?_eq_getElem hltk)
      have HC := Lib.hid (IH.out is[k] t.kids[k] (by omega) hatk wr (HS.out.kept hbr) (HE.out.stays hbr).top (kids_wf ht _ hmem) (by omega))
      have hxl : xs.length ≤ 200 := by have := HXK.out; omega
      obtain ⟨a5, c5, rfl⟩ := owns_shape hownx
      have hBs := hbr.size
      have Z : ∀ (w3 : World) (s : ByteArray), lst s = t.kids[k].text → Below wr.heap.size wr w3 → (w3.ownsRow w.heap.size 9 1 (.slice a5 xs.length c5) xs.length (strCells xs)) ∧ (w3.ownsRow w.heap.size 3 1 (.slice (some ⟨g, 0, none⟩) is.length cv) is.length (intCells is)) ∧
          Below w.heap.size w w3 ∧ (xs ++ [s]).map lst = (t.kids.take (k + 1)).map Tm.text := fun w3 s hs hb3 => by
        have hg3 : wr.grownBy w3 none := ⟨hb3.os, hb3.tape, hb3.output, hb3.size, fun k hk _ => hb3.block k hk⟩
        refine ⟨hownx.kept hg3 (by cases hv : (Value.slice a5 xs.length c5).ownBlock <;> simp), hownr.kept hg3 (.inr (by simp [Value.ownBlock])), hbr.trans (hb3.mono hbr.size), ?_⟩
        rw [List.map_append, hxs, List.take_succ_eq_append_getElem hltk, List.map_append]
        simp [hs]
      have HZ := Lib.hid Z
      clear Z hatk hmem hownx hownr hkl hbr hxs
      generalize is[k] = j at *
      generalize t.kids[k] = u at *
      go_wp2_with fail
      refine HC.out.mono ?_
      rintro e w3 ⟨⟨s, rfl, hs⟩, hb3⟩
      obtain ⟨ho3, hr3, hb13, hm3⟩ := HZ.out w3 s hs hb3
      have hB3 := hb13.size
      have hol := ho3.alloc (.cells #[.string s] 9)
      have hor := hr3.alloc (.cells #[.string s] 9)
      have hnb : ∀ j u, [Value.string s][j]? = some u → (w3.alloc (.cells #[.string s] 9)).cell? ((⟨w3.heap.size, 0, none⟩ : Addr).add j) = some u := World.news_of_block (cs := #[.string s]) (t := 9) (fr := (0, 0)) (heap_alloc_new w3 _)
      have HOL := Lib.hid hol
      have HOR := Lib.hid hor
      have HNB := Lib.hid hnb
      have HM3 := Lib.hid hm3
      clear hol hor hnb hm3 ho3 hr3 HZ HC hs hb3
      go_wp2_with (at_builtin; refine wpList_append_lies _ rfl (.tmp 16) (.tmp 20) 26 rfl w.heap.size 9 i0 (.string ⟨#[]⟩) 1 16 Tryd.underlying26 hi0 hz0 hz1 hz2 rfl (by decide) (.slice a5 xs.length c5) xs.length (strCells xs) rfl HOL.out ⟨w3.heap.size, 0, none⟩ 1 1 [.string s] rfl rfl HNB.out (by simp [Value.oneCell']) (by omega) (by unfold maxLen; omega) (by omega) (by simp; omega) _ rfl ?_)
      intro g4 cap4 w4 hown4 hgrow hat4 hlt4
      have hb4 : Below w.heap.size w w4 := (hb13.alloc hB3 _).grown hgrow (by simp; omega) (own_ge HOL.out)
      have R : TextsRel w is t.kids w.heap.size (.slice (some ⟨g, 0, none⟩) is.length cv) (.slice (some ⟨g4, 0, none⟩) (xs.length + 1) cap4) (.int .i64 ((k : Int) + 1)) w4 :=
        ⟨k + 1, xs ++ [s], by go_num, by omega, by rw [List.length_append, HXK.out]; rfl, HM3.out, by rw [List.length_append]; simp only [strCells, List.map_append]; exact hown4, HOR.out.kept hgrow (own_other HOL.out HOR.out (by decide)), hb4⟩
      have HR := Lib.hid R
      clear R hown4 hgrow hat4 hlt4 HOL HNB HOR hb4 hb13
      go_wp2
      go_roundw
      case rel => exact HR.out
      case measure => simp [intOf]; omega
    · have hlt2 : decide ((k : Int) < (is.length : Int)) = false := decide_eq_false (by omega)
      have htk : t.kids.take k = t.kids := List.take_of_length_le (by have := HLEN.out; omega)
      rw [htk] at hxs
      obtain ⟨a5, c5, rfl⟩ := owns_shape hownx
      have HXS := Lib.hid hxs
      have HOX := Lib.hid hownx
      clear htk hownr hxs hownx
      go_wp2
      go_ret
      exact ⟨xs, _, rfl, HXS.out, HOX.out, hbr⟩

set_option maxRecDepth 100000 in
set_option maxHeartbeats 2000000 in
theorem text_step {base b : Nat} {ns : List Nd} {cs : List Cl} (hn : ns.length ≤ 900000) (hc : cs.length ≤ 900000) (N : Nat) (ih : TextSaid base b ns cs N) : TextSaid base b ns cs (N + 1) := by
  intro i t hN hat w hS hE ht hl
  have hlt := hat.lt
  have x2 : i * 4 < 10000000 := by omega
  have hat' := hat
  cases hat with
  | num _ n h =>
    obtain ⟨gn, capn, hNd⟩ := hS.node h
    obtain ⟨y0, y1, y2, y3, y4⟩ := (⟨hNd.st, hNd.kind, hNd.name, hNd.num, hNd.args⟩ : _ ∧ _ ∧ _ ∧ _ ∧ _)
    have hb0 : -1000000 ≤ n ∧ n ≤ 1000000 := by cases ht with | num _ h0 h1 => exact ⟨h0, h1⟩
    have hb1 := hb0.1
    have hb2 := hb0.2
    have HP := Lib.hid (fun (W : World) (hW : Below w.heap.size w W) => (hE.stays hW).pow)
    have HB := Lib.hid (fun o => (Below.refl w.heap.size w).alloc (Nat.le_refl _) o)
    clear hNd h hS hE ih hat' hb0
    go_enter Tryd.func60, Tryd.ntmps60
    go_wp2_with fail
    refine (implNumText n (by omega) (by omega) _ (HP.out _ (HB.out _))).mono ?_
    rintro e w1 ⟨rfl, hb⟩
    have hb := (HB.out _).trans (hb.mono (HB.out _).size)
    go_wp2
    go_ret
    exact ⟨⟨_, rfl, by rw [Tm.text]; rfl⟩, hb⟩
  | sym _ y h =>
    obtain ⟨gn, capn, hNd⟩ := hS.node h
    obtain ⟨y0, y1, y2, y3, y4⟩ := (⟨hNd.st, hNd.kind, hNd.name, hNd.num, hNd.args⟩ : _ ∧ _ ∧ _ ∧ _ ∧ _)
    clear hNd h hS hE ih hat'
    obtain ⟨s, hs⟩ : ∃ s : ByteArray, s = ⟨(34 :: y ++ [34]).toArray⟩ := ⟨_, rfl⟩
    have HS := Lib.hid (show lst s = (Tm.sym y).text by rw [hs, Tm.text]; rfl)
    simp only at y2
    rw [← hs] at y2
    clear hs
    go_enter Tryd.func60, Tryd.ntmps60
    go_wp2
    go_ret
    exact ⟨⟨s, rfl, HS.out⟩, (Below.refl w.heap.size w).alloc (Nat.le_refl _) _⟩
  | con _ name args l is h hL hlen ha =>
    obtain ⟨gn, capn, hNd⟩ := hS.node h
    obtain ⟨y0, y1, y2, y3, y4⟩ := (⟨hNd.st, hNd.kind, hNd.name, hNd.num, hNd.args⟩ : _ ∧ _ ∧ _ ∧ _ ∧ _)
    have hll : (l : Nat) ≤ cs.length := hL.le
    have HA := Lib.hid (fun (W : World) (hW : Below w.heap.size w W) => argTexts_of hn hc N ih i _ (by omega) hat' W (hS.kept hW) (hE.stays hW).top ht hl)
    have hns : name.size ≤ 200 := by
      have h1 := lst_len name
      rw [Tm.text, List.length_append] at hl
      omega
    have HJ := Lib.hid (join_le (lst name) args)
    have HT := Lib.hid (conText_text (lst name) args)
    have hac : args.length ≤ 200 := by
      have := kids_count ht
      exact Nat.le_trans this hl
    have HB := Lib.hid (fun o => (Below.refl w.heap.size w).alloc (Nat.le_refl _) o)
    clear hNd h hS hE ih hat' hL ha ht
    go_enter Tryd.func60, Tryd.ntmps60
    go_wp2_with fail
    have hB0 := HB.out (Obj.cells #[Value.int .i64 3, Value.string name, Value.int .i64 0, Value.int .i64 (l : Int)] 63)
    have hc1 : (w.alloc (Obj.cells #[Value.int .i64 3, Value.string name, Value.int .i64 0, Value.int .i64 (l : Int)] 63)).cell? ⟨w.heap.size, 1, none⟩ = some (.string name) := by
      rw [cell_of_row _ _ _ _ _ _ (heap_alloc_new w _)]; rfl
    generalize w.alloc (Obj.cells #[Value.int .i64 3, Value.string name, Value.int .i64 0, Value.int .i64 (l : Int)] 63) = W0 at *
    have hlt0 : w.heap.size < W0.heap.size := cell_lt hc1
    go_region_held3 (fun w' => w'.cell? ⟨w.heap.size, 1, none⟩ = some (.string name) ∧ Below w.heap.size w w') (first | exact ⟨by assumption, by assumption⟩ | (refine ⟨?_, ?_⟩ <;> first | assumption | (simp [*]; done) | (apply Below.drew; assumption)))
      (first
        | (go_at_call 34
           refine (HA.out _ hB0.drew).mono ?_
           rintro e w1 ⟨xs, v, rfl, hxs0, hown, hb1⟩
           obtain ⟨av, cv, rfl⟩ := owns_shape hown
           have hs1 : Below w.heap.size w w1 := hB0.drew.trans (hb1.mono hB0.size)
           have hs2 : w1.cell? ⟨w.heap.size, 1, none⟩ = some (.string name) := (hb1.cell hlt0).trans hc1
           have HXS := Lib.hid (show xs.map lst = args.map Tm.text from hxs0)
           have HOWN := Lib.hid hown
           have HXL := Lib.hid (show xs.length = args.length by have := congrArg List.length HXS.out; simpa using this)
           clear hxs0 hown hb1)
        | (go_at_call 41
           refine (constructorText_any name _ W0.drew.heap.size _ _ (by first | exact HOWN.out | exact HOWN.out.drew) (by omega) (by rw [HXL.out]; omega) (by rw [HXS.out]; exact Nat.le_trans HJ.out (by omega))).mono ?_
           rintro e w2 ⟨⟨s, rfl, hs⟩, hb2⟩
           have HS := Lib.hid (show lst s = (Tm.con (lst name) args).text by rw [hs, HXS.out, HT.out])
           have hs3 : Below w.heap.size w w2 := hs1.trans (hb2.mono hs1.size)
           have hs4 : w2.cell? ⟨w.heap.size, 1, none⟩ = some (.string name) := (hb2.cell (cell_lt hs2)).trans hs2
           clear hs hb2))
    go_wp2
    go_ret
    exact ⟨⟨s, rfl, HS.out⟩, by assumption⟩

theorem text_any {base b : Nat} {ns : List Nd} {cs : List Cl} (hn : ns.length ≤ 900000) (hc : cs.length ≤ 900000) : ∀ N, TextSaid base b ns cs N
  | 0 => fun i t h => by omega
  | N + 1 => text_step hn hc N (text_any hn hc N)

theorem owns_mono {w : World} {base base' : Nat} {e : TypeId} {size : Nat} {v : Value} {n : Nat} {xs : List Value} (hb : base' ≤ base) (h : w.ownsRow base e size v n xs) : w.ownsRow base' e size v n xs := by
  refine ⟨h.1, ?_⟩
  rcases h.2 with h' | ⟨g, cap, cur, hv, hg, r⟩
  · exact .inl h'
  · exact .inr ⟨g, cap, cur, hv, Nat.le_trans hb hg, r⟩

set_option maxRecDepth 100000 in
set_option maxHeartbeats 1000000 in
theorem implTermParts (s : ByteArray) (hlim : s.size ≤ 140737488351232) (w : World) (hE : Env w.heap.size w) : Calls Tryd.prog 11 #[.string s] w (PartsAns s w) := by
  go_enter Tryd.func11, Tryd.ntmps11
  go_wp2_with fail
  refine (newTermStore_any _).mono ?_
  rintro e w1 ⟨b, rfl, hS1, hb1⟩
  have hE1 := hE.stays hb1
  go_wp2_with fail
  refine (read_any w.heap.size b [] [] s hlim 200 w1 hS1 hE1 (by simp) (by simp) (by omega) (by omega)).mono ?_
  rintro e w2 ⟨ns, cs, h1, h2, h3, h4, h5, h6, (⟨hr, rfl⟩ | ⟨t, i, hr, hat, rfl⟩)⟩
  · have hb := hb1.trans h6.below
    have P : PartsAns s w (.returned (.tuple #[.string ⟨#[]⟩, .slice none 0 0])) w2 := ⟨⟨#[]⟩, [], _, rfl, by unfold partsOf; rw [hr]; rfl, World.ownsRow_nil _ _ _ _, hb⟩
    have HP := Lib.hid P
    clear hr h1 h2 h3 h4 h5 h6 hb1 hS1 hE1 P hb
    go_wp2
    go_ret2
    exact HP.out
  · have hb := hb1.trans h6.below
    obtain ⟨hw, hx, hl⟩ := rdAll_sound hr
    have hsz : w.heap.size ≤ w2.heap.size := hb.size
    have hlt := hat.lt
    have x2 : i * 4 < 10000000 := by omega
    cases hat with
    | num _ n h =>
      obtain ⟨gn, capn, hNd⟩ := h5.node h
      obtain ⟨y0, y1⟩ := (⟨hNd.st, hNd.kind⟩ : _ ∧ _)
      have HP := Lib.hid (show PartsAns s w (.returned (.tuple #[.string s, .slice none 0 0])) w2 from ⟨s, [], _, rfl, by unfold partsOf; rw [hr]; rfl, World.ownsRow_nil _ _ _ _, hb⟩)
      clear hr h1 h2 h4 h5 h6 hb1 hS1 hE1 hb hw hx hNd h
      go_wp2
      go_ret2
      exact HP.out
    | sym _ y h =>
      obtain ⟨gn, capn, hNd⟩ := h5.node h
      obtain ⟨y0, y1⟩ := (⟨hNd.st, hNd.kind⟩ : _ ∧ _)
      have HP := Lib.hid (show PartsAns s w (.returned (.tuple #[.string s, .slice none 0 0])) w2 from ⟨s, [], _, rfl, by unfold partsOf; rw [hr]; rfl, World.ownsRow_nil _ _ _ _, hb⟩)
      clear hr h1 h2 h4 h5 h6 hb1 hS1 hE1 hb hw hx hNd h
      go_wp2
      go_ret2
      exact HP.out
    | con _ name args l is h hL hlen ha =>
      obtain ⟨gn, capn, hNd⟩ := h5.node h
      obtain ⟨y0, y1, y2⟩ := (⟨hNd.st, hNd.kind, hNd.name⟩ : _ ∧ _ ∧ _)
      have hlb := hNd.lb
      have hlg := hNd.lg
      have hE2 := hE.stays hb
      have hat : At ns cs i (.con (lst name) args) := .con i name args l is h hL hlen ha
      have HA := Lib.hid (fun (W : World) (hW : Below w2.heap.size w2 W) => argTexts_of (base := w.heap.size) (b := b) (by omega) (by omega) 1000 (text_any (by omega) (by omega) 1000) i _ (by rw [hx]; omega) hat W (h5.kept hW) (hE2.top.stays hW).top hw (by rw [hx]; exact hl))
      have HPN := Lib.hid (show partsOf (lst s) = (lst name, args.map Tm.text) by unfold partsOf; rw [hr])
      clear hr h1 h2 h4 h5 h6 hb1 hS1 hE1 hw hx hNd h hL hlen ha hat hE2 hE
      go_wp2_with fail
      have hB0 : Below w2.heap.size w2 w2 := Below.refl _ _
      go_region_held3 (fun w' => w'.cell? ⟨b, 0, none⟩ = some (.slice (some ⟨gn, 0, none⟩) ns.length capn) ∧ w'.cell? ⟨gn, i * 4 + 1, none⟩ = some (.string name) ∧ Below w2.heap.size w2 w') (first | exact ⟨by assumption, by assumption, by assumption⟩ | (refine ⟨?_, ?_, ?_⟩ <;> first | assumption | (simp [*]; done) | (apply Below.drew; assumption)))
        (first
          | (go_at_call 34
             refine (HA.out _ hB0.drew).mono ?_
             rintro e w3 ⟨xs, v, rfl, hxs0, hown, hb3⟩
             obtain ⟨av, cv, rfl⟩ := owns_shape hown
             have hs1 : Below w2.heap.size w2 w3 := hB0.drew.trans (hb3.mono (Nat.le_refl _))
             have hs2 : w3.cell? ⟨b, 0, none⟩ = some (.slice (some ⟨gn, 0, none⟩) ns.length capn) := (hb3.cell hlb).trans y0
             have hs3 : w3.cell? ⟨gn, i * 4 + 1, none⟩ = some (.string name) := (hb3.cell hlg).trans y2
             have HP := Lib.hid (show PartsAns s w (.returned (.tuple #[.string name, .slice av xs.length cv])) w3 from
               ⟨name, xs, _, rfl, by rw [HPN.out]; exact congrArg (Prod.mk (lst name)) (show xs.map lst = args.map Tm.text from hxs0).symm, owns_mono hsz hown, hb.trans (hs1.mono hsz)⟩)
             clear hxs0 hown hb3))
      go_wp2
      go_ret2
      exact HP.out

end Go.Proofs.YtkhliflgflhheaaDoor
