/-
  THE WALK of impl.nameSet.inOrder: the names of a map, by their places.
-/
import Derived.Test.YtilijbpbnlnhlaaGreatPV7
import Derived.Sort.KeysCollected
import Derived.Maps.RangeWalk
import Derived.Maps.OwnOps
namespace Go.Proofs.YtilijbpbnlnhlaaGreat.Pr
open Go Go.RowKit Go.Maps Go.WideMaps Go.Sort Go.Proofs Go.Lib

/-- The place of a name. -/
def placeOf (l : List (ByteArray × Nat)) (s : ByteArray) : Nat := ((l.find? fun p => lst p.1 == lst s).map Prod.snd).getD 0

set_option maxRecDepth 100000 in
set_option maxHeartbeats 2000000 in
theorem less_any (W : World) (box mb n : Nat) (D : DataW Unit) (a b : ByteArray) (x y : Nat) (hbox : W.cell? ⟨box, 0, none⟩ = some (.map (some mb))) (hown : W.ownsMap Tryz.prog 9 (plainElem Tryz.prog 3) mb n D)
    (ha : a.size ≤ 1048576) (hb : b.size ≤ 1048576) (hx : ∀ z, D.atKey (.string (lst a)) z = .lit (.int .i64 (x : Int))) (hy : ∀ z, D.atKey (.string (lst b)) z = .lit (.int .i64 (y : Int))) :
    Calls Tryz.prog 56 #[.string a, .string b, .pointer (some ⟨box, 0, none⟩)] W fun e w' => e = .returned (.int .i64 (Lib.compareInt x y)) ∧ ∃ q, w' = W.drewN q := by
  have HOW := Lib.hid hown
  have HX := Lib.hid hx
  have HY := Lib.hid hy
  clear hown hx hy
  go_enter Tryz.func56, Tryz.ntmps56
  go_wp2_with (first
    | (at_lookup; refine wpList_lookup_own_int _ rfl _ _ 55 rfl 9 3 .i64 lawS Tryz.underlying55 Tryz.underlying3 (zeroI _) mb n D rfl HOW.out _ _ rfl (keyS ha) ?_; intro c hat hwc; obtain rfl : c = (x : Int) := (by have := HX.out (.lit (.int .i64 0)); rw [hat] at this; simpa using this); clear hat hwc)
    | (at_lookup; refine wpList_lookup_own_int _ rfl _ _ 55 rfl 9 3 .i64 lawS Tryz.underlying55 Tryz.underlying3 (zeroI _) mb n D rfl HOW.out _ _ rfl (keyS hb) ?_; intro c hat hwc; obtain rfl : c = (y : Int) := (by have := HY.out (.lit (.int .i64 0)); rw [hat] at this; simpa using this); clear hat hwc)
    | (go_at_call 57; refine (Tryz.cmp_Compare_int _ _ _).mono ?_; rintro e w' ⟨rfl, rfl⟩))
  go_ret
  exact ⟨rfl, 0, rfl⟩

/-! ### The order of names by their places -/

/-- Names with places: no name twice, the places rise; names of no great size. -/
structure Ranked (l : List (ByteArray × Nat)) : Prop where
  apart : l.Pairwise (fun p q => p.1 ≠ q.1)
  rise : l.Pairwise (fun p q => p.2 < q.2)
  small : ∀ p ∈ l, p.1.size ≤ 1048576
  few : l.length ≤ 1048576
theorem pairwise_mem {α : Type} {R : α → α → Prop} : ∀ {l : List α}, l.Pairwise R → ∀ a ∈ l, ∀ b ∈ l, a = b ∨ R a b ∨ R b a
  | [], _, a, ha, _, _ => by simp at ha
  | x :: l, h, a, ha, b, hb => by
    have hx := (List.pairwise_cons.1 h).1
    rcases List.mem_cons.1 ha with e1 | h1 <;> rcases List.mem_cons.1 hb with e2 | h2
    · exact .inl (e1.trans e2.symm)
    · rw [e1]; exact .inr (.inl (hx b h2))
    · rw [e2]; exact .inr (.inr (hx a h1))
    · exact pairwise_mem (List.pairwise_cons.1 h).2 a h1 b h2
theorem placeOf_mem {l : List (ByteArray × Nat)} (h : Ranked l) {p : ByteArray × Nat} (hp : p ∈ l) : placeOf l p.1 = p.2 := by
  unfold placeOf
  cases hf : l.find? (fun q => lst q.1 == lst p.1) with
  | none => exact absurd (List.find?_eq_none.1 hf p hp) (by simp)
  | some q =>
    have h1 : q.1 = p.1 := lst_inj (by simpa using List.find?_some hf)
    have h2 := List.mem_of_find?_eq_some hf
    rcases pairwise_mem h.apart q h2 p hp with e | e | e
    · rw [e]; rfl
    · exact absurd h1 e
    · exact absurd h1.symm e
open Classical in
/-- A name of the list; any text that is none stands for the first one. -/
noncomputable def norm (l : List (ByteArray × Nat)) (x : ByteArray) : ByteArray := if x ∈ l.map Prod.fst then x else (l.headD (⟨#[]⟩, 0)).1
theorem norm_mem {l : List (ByteArray × Nat)} (hl : l ≠ []) (x : ByteArray) : ∃ p ∈ l, p.1 = norm l x := by
  unfold norm
  split
  · rename_i h
    obtain ⟨p, hp, e⟩ := List.mem_map.1 h
    exact ⟨p, hp, e⟩
  · cases l with
    | nil => exact absurd rfl hl
    | cons p l => exact ⟨p, by simp, rfl⟩
theorem norm_id {l : List (ByteArray × Nat)} {x : ByteArray} (h : x ∈ l.map Prod.fst) : norm l x = x := if_pos h
noncomputable def encN (l : List (ByteArray × Nat)) (x : ByteArray) : Value := .string (norm l x)
noncomputable def plc (l : List (ByteArray × Nat)) (x : ByteArray) : Nat := placeOf l (norm l x)
noncomputable def cmpN (l : List (ByteArray × Nat)) (x y : ByteArray) : Int := Lib.compareInt (plc l x) (plc l y)
theorem ltN (l : List (ByteArray × Nat)) (x y : ByteArray) : ltOf (cmpN l) x y = decide (plc l x < plc l y) := by
  unfold ltOf cmpN Lib.compareInt
  by_cases h : plc l x < plc l y
  · simp [h]
  · have h2 : ¬ ((plc l x : Int) < (plc l y : Int)) := by omega
    rw [if_neg h2]
    split <;> simp [h]
theorem swoN (l : List (ByteArray × Nat)) : SWO (ltOf (cmpN l)) := by
  refine ⟨fun x => ?_, fun x y z h1 h2 => ?_, fun x y z h1 h2 => ?_⟩ <;> simp only [ltN, decide_eq_true_eq, decide_eq_false_iff_not] at * <;> omega
theorem encN_one (l : List (ByteArray × Nat)) : OneCell (encN l) := fun _ => rfl
theorem encN_names {l : List (ByteArray × Nat)} {ts : List ByteArray} (h : ∀ x ∈ ts, x ∈ l.map Prod.fst) : ts.map (encN l) = txtCells ts := by
  unfold txtCells encN
  exact List.map_congr_left (fun x hx => by rw [norm_id (h x hx)])
/-- What is sorted by the places is the list as it stands. -/
theorem sorted_names {l : List (ByteArray × Nat)} (hR : Ranked l) {d d' : Array ByteArray} (hd : d.toList.Perm (l.map Prod.fst)) (hp : PermIn 0 d.size d d') (hs : SortedIn (ltOf (cmpN l)) 0 d.size d') : d'.toList = l.map Prod.fst ∧ d'.size = d.size := by
  obtain ⟨h1, _, h3⟩ := hp
  have e1 : d'.extract 0 d.size = d' := by rw [← h1]; exact Array.extract_size
  have e2 : d.extract 0 d.size = d := Array.extract_size
  rw [e1, e2] at h3
  have hperm := h3.trans hd
  refine ⟨?_, h1⟩
  have hmem : ∀ x ∈ d'.toList, x ∈ l.map Prod.fst := fun x hx => hperm.mem_iff.1 hx
  have hplc : ∀ p ∈ l, plc l p.1 = p.2 := fun p hp => by
    unfold plc
    rw [norm_id (List.mem_map.2 ⟨p, hp, rfl⟩), placeOf_mem hR hp]
  refine List.Perm.eq_of_pairwise (le := fun x y => plc l x ≤ plc l y) (fun x y hx hy hxy hyx => ?_) ?_ ?_ hperm
  · obtain ⟨p, hp, rfl⟩ := List.mem_map.1 (hmem x hx)
    obtain ⟨q, hq, rfl⟩ := List.mem_map.1 hy
    rw [hplc p hp, hplc q hq] at hxy hyx
    rcases pairwise_mem hR.rise p hp q hq with e | e | e
    · rw [e]
    · omega
    · omega
  · rw [List.pairwise_iff_getElem]
    intro i j hi hj hij
    have := hs i j (Nat.zero_le _) hij (by simp at hj; omega)
    rw [ltN, decide_eq_false_iff_not] at this
    simp only [Array.length_toList] at hi hj
    rw [getElem!_pos d' j (by omega), getElem!_pos d' i (by omega)] at this
    simpa using this
  · refine List.pairwise_map.2 (hR.rise.imp_of_mem fun {p q} hp hq h => ?_)
    rw [hplc p hp, hplc q hq]
    omega
theorem sub_len {α : Type} {a b : List α} (h : a.Nodup) (hb : b.Nodup) (hs : ∀ x ∈ a, x ∈ b) : a.length ≤ b.length := by
  classical
  have hp : a.Perm (b.filter fun x => decide (x ∈ a)) := by
    refine (List.perm_ext_iff_of_nodup h (hb.sublist List.filter_sublist)).2 fun x => ?_
    rw [List.mem_filter]
    exact ⟨fun hx => ⟨hs x hx, decide_eq_true hx⟩, fun hx => of_decide_eq_true hx.2⟩
  rw [hp.length_eq]
  exact List.length_filter_le _ _
theorem Ranked.nodup {l : List (ByteArray × Nat)} (h : Ranked l) : (l.map Prod.fst).Nodup := List.pairwise_map.2 h.apart
theorem lst_mk (x : List UInt8) : lst ⟨x.toArray⟩ = x := rfl
theorem nodup_lst {ts : List ByteArray} (h : (ts.map lst).Nodup) : ts.Nodup := (List.pairwise_map.1 h).imp (fun h e => h (by rw [e]))

/-- What has been collected so far. -/
def IORel (w0 : World) (l : List (ByteArray × Nat)) (mb r n : Nat) (D : DataW Unit) (v : Value) (wr : World) : Prop :=
  ∃ (left : Lit → Bool) (cnt : Nat) (ts : List ByteArray), wr.ranges Tryz.prog 9 (plainElem Tryz.prog 3) mb r n D left cnt ∧ wr.ownsRow w0.heap.size 9 1 v ts.length (txtCells ts) ∧ Collected D left (ts.map lst) ∧ Below w0.heap.size w0 wr
theorem collected_sub {D : DataW Unit} {l : List (ByteArray × Nat)} {left : Lit → Bool} {ts : List ByteArray} (hN : NameMap D l) (hC : Collected D left (ts.map lst)) : ts.Nodup ∧ ∀ x ∈ ts, x ∈ l.map Prod.fst := by
  refine ⟨nodup_lst hC.1, fun x hx => ?_⟩
  obtain ⟨p, hp, e⟩ := (hN.has_iff x).1 ((hC.2 (lst x)).1 (List.mem_map.2 ⟨x, hx, rfl⟩)).1
  exact List.mem_map.2 ⟨p, hp, e⟩
theorem collected_perm {D : DataW Unit} {l : List (ByteArray × Nat)} {left : Lit → Bool} {ts : List ByteArray} (hR : Ranked l) (hN : NameMap D l) (hC : Collected D left (ts.map lst)) (h0 : ∀ kl, left kl = false) : ts.Perm (l.map Prod.fst) := by
  refine (List.perm_ext_iff_of_nodup (collected_sub hN hC).1 hR.nodup).2 fun x => ⟨(collected_sub hN hC).2 x, fun hx => ?_⟩
  obtain ⟨p, hp, rfl⟩ := List.mem_map.1 hx
  obtain ⟨y, hy, e⟩ := List.mem_map.1 ((hC.2 (lst p.1)).2 ⟨(hN.hit p hp).1, h0 _⟩)
  rw [← lst_inj e]
  exact hy

set_option maxRecDepth 100000 in
set_option maxHeartbeats 2000000 in
theorem inOrder_any (l : List (ByteArray × Nat)) (hR : Ranked l) (mb n : Nat) (D : DataW Unit) (w : World) (hN : NameMap D l) (hown : w.ownsMap Tryz.prog 9 (plainElem Tryz.prog 3) mb n D) :
    Calls Tryz.prog 30 #[.map (some mb)] w fun e w' => (∃ v : Value, e = .returned v ∧ w'.ownsRow w.heap.size 9 1 v (l.map Prod.fst).length (txtCells (l.map Prod.fst))) ∧ Below w.heap.size w w' := by
  have hbl := hown.lt
  have hb0 : Below w.heap.size w (w.alloc (.cells #[.map (some mb)] 55)) := (Below.refl _ _).alloc (Nat.le_refl _) _
  have k0 := heap_alloc_new w (.cells #[.map (some mb)] 55)
  have hown0 := hown.alloc (.cells #[.map (some mb)] 55)
  obtain ⟨w0, hw0⟩ : ∃ w0, w.alloc (.cells #[.map (some mb)] 55) = w0 := ⟨_, rfl⟩
  have hsz0 : w0.heap.size = w.heap.size + 1 := by rw [← hw0]; simp
  rw [hw0] at hb0 k0 hown0
  have hbl0 : mb < w0.heap.size := by omega
  have HOW0 := Lib.hid hown0
  have HB0 := Lib.hid hb0
  have HK0 := Lib.hid k0
  have HRR := Lib.hid hR
  have HN := Lib.hid hN
  have HSZ := Lib.hid hsz0
  have HBL := Lib.hid hbl0
  have q0 := cell_of_row _ w.heap.size 0 _ _ _ k0
  simp only [List.getElem?_toArray, List.getElem?_cons_zero] at q0
  clear hown hb0 k0 hR hN hbl hown0 hbl0 hsz0
  go_enter Tryz.func30, Tryz.ntmps30
  go_wp2_with (first
    | (at_range; refine wpList_range_own _ rfl _ 55 rfl 9 3 lawS Tryz.underlying55 _ mb n D rfl HOW0.out ?_; intro w1 hrg0 hg0 hs0))
  go_frame
  have HST := Lib.hid (show IORel w0 l mb w0.heap.size n D (.slice none 0 0) w1 from ⟨_, _, [], hrg0, World.ownsRow_nil _ _ _ _, Collected.start D, (Below.refl _ _).grown hg0 (Nat.le_refl _) (fun j hj => by cases hj)⟩)
  clear hrg0 hg0 hs0 q0
  obtain ⟨r, hr⟩ : ∃ r, w0.heap.size = r := ⟨_, rfl⟩
  rw [hr] at HST ⊢
  have HRW := Lib.hid hr
  clear hr
  go_loopw [3] (fun v wr => IORel w0 l mb r n D v wr) (fun _ wr => wr.rangeLeft mb r)
  case atStart => exact HST.out
  case round =>
    obtain ⟨left, cnt, ts, hrg, hrow, hC, hb⟩ := hrel
    clear HST
    obtain ⟨av, cv, rfl⟩ := owns_shape hrow
    have hlen : ts.length ≤ 1048576 := by
      have h1 := sub_len (collected_sub HN.out hC).1 HRR.out.nodup (collected_sub HN.out hC).2
      have h2 := HRR.out.few
      rw [List.length_map] at h1
      omega
    have HRG := Lib.hid hrg
    have HROW := Lib.hid hrow
    have HC := Lib.hid hC
    have HB := Lib.hid hb
    clear hrg hrow hC hb
    go_wp2_with (first
      | (at_next; refine wpList_next_ranges _ rfl _ rfl 9 lawS (plainElem Tryz.prog 3) encStr (Value.int .i64) (fun key kl hk => by obtain ⟨x, hx, _⟩ := Maps.keyOf_str Tryz.underlying9 hk; exact ⟨x, hx⟩) (fun v y hv => by obtain ⟨c, rfl, _⟩ := plainElem_int_inv Tryz.underlying3 hv; exact ⟨c, rfl⟩) mb r n _ _ _ rfl HRG.out ?_ ?_))
    · intro hc0 hl0
      have hperm := collected_perm HRR.out HN.out HC.out hl0
      have hpl := hperm.length_eq
      rw [List.length_map] at hpl
      cases hl : l with
      | nil =>
        have hts : ts = [] := by
          rw [hl] at hpl
          exact List.length_eq_zero_iff.1 hpl
        have HP := Lib.hid (show wr.ownsRow w0.heap.size 9 1 (.slice av 0 cv) (l.map Prod.fst).length (txtCells (l.map Prod.fst)) by have := HROW.out; rw [hts] at this; rw [hl]; exact this)
        rw [hts]
        have HSN := Lib.hid (fun fv => Tryz.slices_SortFunc_none (α := Nat) av cv fv wr)
        clear hperm hpl hts hl0 hc0 HRG HROW HC
        go_wp2_with (first
          | (go_at_call 55; refine (HSN.out _).mono ?_; rintro e w' ⟨rfl, rfl⟩))
        go_ret
        exact ⟨⟨_, rfl, owns_mono HB0.out.size HP.out⟩, below_step HB0.out HB.out⟩
      | cons p0 l0 =>
        have hne : l ≠ [] := by rw [hl]; simp
        have h0 : 0 < ts.length := by rw [hpl, hl]; simp
        obtain ⟨g, cap, hv, hg1, hg2⟩ := HROW.out.form h0
        simp only [Value.slice.injEq, true_and] at hv
        obtain ⟨rfl, rfl⟩ := hv
        have hsub := (collected_sub HN.out HC.out).2
        have hrowE : wr.ownsRow w0.heap.size 9 1 (.slice (some ⟨g, 0, none⟩) ts.toArray.size cv) ts.toArray.size (ts.toArray.toList.map (encN l)) := by
          rw [show ts.toArray.size = ts.length by simp, show ts.toArray.toList = ts by simp, encN_names hsub]
          exact HROW.out
        have hbox : wr.heap[w.heap.size]? = some (.cells #[.map (some mb)] 55 (0, 0)) := (HB.out.block _ (lt_of_block HK0.out)).trans HK0.out
        have hgw : g ≠ w.heap.size := by have := HSZ.out; omega
        have hgm : some mb ≠ some g := by have := HBL.out; intro e; cases e; omega
        have hcmp : CmpLays1 Tryz.prog 56 #[.pointer (some ⟨w.heap.size, 0, none⟩)] (encN l) (cmpN l) g 0 ts.toArray.size wr := by
          intro m os dk hdk x y
          obtain ⟨p, hp, ep⟩ := norm_mem hne x
          obtain ⟨q, hq, eq⟩ := norm_mem hne y
          have hG := grown_sorted (encN l) (w := wr) (g := g) (n := m) (os := os) dk
          have hK := (hG.block _ (lt_of_block hbox) (fun e => hgw (by cases e; rfl))).trans hbox
          refine (less_any (sortWorld (encN l) wr g 0 m dk os) w.heap.size mb n D (norm l x) (norm l y) (plc l x) (plc l y) (by rw [show (sortWorld (encN l) wr g 0 m dk os) = grow (putRow (encN l) (Sort.ahead wr m) g 0 dk) os from rfl, cell_of_row _ _ _ _ _ _ hK]; rfl) (HRG.out.owns.kept hG hgm) (by rw [← ep]; exact HRR.out.small p hp) (by rw [← eq]; exact HRR.out.small q hq) (fun z => ?_) (fun z => ?_)).mono ?_
          · rw [plc, ← ep, placeOf_mem HRR.out hp]
            exact (HN.out.hit p hp).2 z
          · rw [plc, ← eq, placeOf_mem HRR.out hq]
            exact (HN.out.hit q hq).2 z
          · rintro e w' ⟨rfl, k, rfl⟩
            exact ⟨rfl, k, #[], by rw [grow_empty]⟩
        have HSF := Lib.hid (Tryz.slices_SortFunc (encN l) (encN_one l) (cmpN l) (swoN l) 56 #[.pointer (some ⟨w.heap.size, 0, none⟩)] g 0 cv ts.toArray wr (enters_of Tryz.func56 (by kernel_rfl) rfl) hcmp (holds_own (encN l) hrowE) hg2 (by simp; omega))
        rw [show ts.toArray.size = ts.length by simp] at HSF
        have HFIN := Lib.hid (fun (m : Nat) (d' : Array ByteArray) (os : Array Obj) (h1 : PermIn 0 ts.length ts.toArray d') (h2 : SortedIn (ltOf (cmpN l)) 0 ts.length d') => (by
            have hs := sorted_names (d := ts.toArray) HRR.out (by simpa using hperm) (by simpa using h1) (by simpa using h2)
            have h3 := own_sorted (encN l) (m := m) (os := os) HROW.out (d := d') (by rw [hs.2]; simp)
            rw [hs.1, encN_names (fun x hx => hx)] at h3
            refine ⟨?_, below_step HB0.out (HB.out.grown (grown_sorted (encN l) d') HB.out.size (fun j hj => by cases hj; exact hg1))⟩
            rw [List.length_map, ← hpl]
            exact owns_mono HB0.out.size h3 :
          (sortWorld (encN l) wr g 0 m d' os).ownsRow w.heap.size 9 1 (.slice (some ⟨g, 0, none⟩) ts.length cv) (l.map Prod.fst).length (txtCells (l.map Prod.fst)) ∧ Below w.heap.size w (sortWorld (encN l) wr g 0 m d' os)))
        clear hperm hpl hl0 hc0 HRG HC hsub hrowE hbox hgw hgm hcmp h0 hg1 hg2 hne hl
        go_wp2_with (first
          | (go_at_call 55; refine HSF.out.mono ?_; rintro e w' ⟨rfl, d', m, os, h1, h2, rfl⟩))
        have hfin := HFIN.out m d' os h1 h2
        clear HFIN HSF h1 h2
        have HF2 := Lib.hid hfin
        clear hfin
        generalize sortWorld (encN l) wr g 0 m d' os = W at *
        go_ret
        exact ⟨⟨_, rfl, HF2.out.1⟩, HF2.out.2⟩
    · intro x c kl yd yp w2 cnt2 hkey hlk hv hat hrg2 hlt hg2 hs2 hen
      obtain ⟨x', ex, rfl, _⟩ := Maps.keyOf_str Tryz.underlying9 hkey
      obtain rfl : x = x' := encStr_inj ex
      have hrow2 := HROW.out.kept hg2 (Or.inr (row_ne_iter HROW.out HRG.out).symm)
      have hb2 := HB.out.grown hg2 HB.out.size (fun j hj => by cases hj; exact Nat.le_of_eq HRW.out)
      obtain ⟨g', cap', w3, hrun, hown3, hg3, hat3⟩ := append_txt (w2.alloc (.cells #[.string ⟨x.toArray⟩] 9)) w0.heap.size _ ts.length _ (hrow2.alloc _) ⟨x.toArray⟩ w2.heap.size (heap_alloc_new w2 _) hlen (by have := hb2.size; simp; omega)
      have hrg3 := (hrg2.alloc _).kept hg3 (row_ne_low hrow2 HBL.out) (row_ne_iter hrow2 hrg2)
      have HR := Lib.hid (show IORel w0 l mb r n D (.slice (some ⟨g', 0, none⟩) (ts.length + 1) cap') w3 from ⟨_, cnt2, ts ++ [⟨x.toArray⟩], hrg3, by rw [List.length_append, txtCells, List.map_append]; exact hown3, by
          rw [List.map_append]
          exact HC.out.step hlk hat, (hb2.alloc hb2.size _).grown hg3 (by have := hb2.size; simp; omega) (own_ge hrow2)⟩)
      have HME := Lib.hid (show w3.rangeLeft mb r < wr.rangeLeft mb r by rw [hrg3.left_eq, HRG.out.left_eq]; exact hlt)
      have HRUN := Lib.hid hrun
      have hen2 : (Instr.entry (.pointer (some ⟨r, 0, none⟩))).run Tryz.prog w2 = .ok (.tuple #[.string ⟨x.toArray⟩, .int .i64 c]) w2 := hen
      clear hrun hown3 hg3 hat3 hrg3 hb2 hrow2 hkey hlk hv hat hrg2 hlt hg2 hs2 hen ex
      unfold encStr
      go_wp2_with (first
        | (at_builtin
           refine wpList_append_run rfl (.tmp 11) (.tmp 13) _ rfl rfl rfl HRUN.out ?_))
      go_roundw
      case rel => exact HR.out
      case measure => exact HME.out

end Go.Proofs.YtilijbpbnlnhlaaGreat.Pr
