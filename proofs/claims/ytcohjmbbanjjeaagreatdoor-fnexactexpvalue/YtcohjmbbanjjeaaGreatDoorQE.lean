/-
  THE WALK over spec.l01Args.
  THE WALK over spec.TermKind; laws.FnExactTermKind answers true.
-/
import Derived.Test.YtcohjmbbanjjeaaGreatDoorQD
namespace Go.Proofs.YtcohjmbbanjjeaaGreatDoor
open Go Go.RowKit

def strCells (xs : List ByteArray) : List Value := xs.map Value.string
theorem info9 : (Tryz.prog.info? 9).map (fun i => (i.zero, i.size, i.bytes)) = some (some (.string ⟨#[]⟩), 1, 16) := by kernel_rfl

/-- The scan stands at place i. -/
def SC (l : List UInt8) (a i d : Nat) (q : Bool) (fr : Nat) (xs : List (List UInt8)) : Prop :=
  scan (l.drop (a + 1)) 1 false [] [] = scan (l.drop i) d q ((l.drop fr).take (i - fr)) xs

theorem take_snoc2 {l : List UInt8} {fr i : Nat} (h : fr ≤ i) (hi : i < l.length) : (l.drop fr).take (i + 1 - fr) = (l.drop fr).take (i - fr) ++ [l[i]] := by
  rw [show i + 1 - fr = (i - fr) + 1 from by omega, List.take_succ_eq_append_getElem (by rw [List.length_drop]; omega), List.getElem_drop]
  simp only [show fr + (i - fr) = i from by omega]

theorem sc_quote {l : List UInt8} {a i d : Nat} {q : Bool} {fr : Nat} {xs : List (List UInt8)} (h : SC l a i d q fr xs) (hf : fr ≤ i) (hi : i < l.length) (hc : l[i] = 34) : SC l a (i + 1) d (!q) fr xs := by
  unfold SC at *
  rw [h, List.drop_eq_getElem_cons hi, scan, if_pos hc, take_snoc2 hf hi]
theorem sc_in {l : List UInt8} {a i d : Nat} {fr : Nat} {xs : List (List UInt8)} (h : SC l a i d true fr xs) (hf : fr ≤ i) (hi : i < l.length) (hc : ¬ l[i] = 34) : SC l a (i + 1) d true fr xs := by
  unfold SC at *
  rw [h, List.drop_eq_getElem_cons hi, scan, if_neg hc, if_pos rfl, take_snoc2 hf hi]
theorem sc_open {l : List UInt8} {a i d : Nat} {fr : Nat} {xs : List (List UInt8)} (h : SC l a i d false fr xs) (hf : fr ≤ i) (hi : i < l.length) (hc : l[i] = 40) : SC l a (i + 1) (d + 1) false fr xs := by
  unfold SC at *
  rw [h, List.drop_eq_getElem_cons hi, scan, if_neg (by rw [hc]; decide), if_neg (by simp), if_pos hc, take_snoc2 hf hi]
theorem sc_close {l : List UInt8} {a i d : Nat} {fr : Nat} {xs : List (List UInt8)} (h : SC l a i d false fr xs) (hf : fr ≤ i) (hi : i < l.length) (hc : l[i] = 41) (hd : d ≠ 1) : SC l a (i + 1) (d - 1) false fr xs := by
  unfold SC at *
  rw [h, List.drop_eq_getElem_cons hi, scan, if_neg (by rw [hc]; decide), if_neg (by simp), if_neg (by rw [hc]; decide), if_pos hc, if_neg hd, take_snoc2 hf hi]
theorem sc_end {l : List UInt8} {a i : Nat} {fr : Nat} {xs : List (List UInt8)} (h : SC l a i 1 false fr xs) (hi : i < l.length) (hc : l[i] = 41) : scan (l.drop (a + 1)) 1 false [] [] = some (xs ++ [(l.drop fr).take (i - fr)], l.drop (i + 1)) := by
  unfold SC at h
  rw [h, List.drop_eq_getElem_cons hi, scan, if_neg (by rw [hc]; decide), if_neg (by simp), if_neg (by rw [hc]; decide), if_pos hc, if_pos rfl]
theorem sc_cut {l : List UInt8} {a i : Nat} {fr : Nat} {xs : List (List UInt8)} (h : SC l a i 1 false fr xs) (hi : i < l.length) (hc : l[i] = 44) : SC l a (i + 1) 1 false (i + 1) (xs ++ [(l.drop fr).take (i - fr)]) := by
  unfold SC at *
  rw [h, List.drop_eq_getElem_cons hi, scan, if_neg (by rw [hc]; decide), if_neg (by simp), if_neg (by rw [hc]; decide), if_neg (by rw [hc]; decide), if_pos ⟨hc, rfl⟩]
  simp
theorem sc_go {l : List UInt8} {a i d : Nat} {fr : Nat} {xs : List (List UInt8)} (h : SC l a i d false fr xs) (hf : fr ≤ i) (hi : i < l.length) (h1 : ¬ l[i] = 34) (h2 : ¬ l[i] = 40) (h3 : ¬ l[i] = 41) (h4 : ¬ (l[i] = 44 ∧ d = 1)) : SC l a (i + 1) d false fr xs := by
  unfold SC at *
  rw [h, List.drop_eq_getElem_cons hi, scan, if_neg h1, if_neg (by simp), if_neg h2, if_neg h3, if_neg h4, take_snoc2 hf hi]
theorem sc_none {l : List UInt8} {a i d : Nat} {q : Bool} {fr : Nat} {xs : List (List UInt8)} (h : SC l a i d q fr xs) (hi : ¬ i < l.length) : scan (l.drop (a + 1)) 1 false [] [] = none := by
  unfold SC at h
  rw [h, List.drop_eq_nil_of_le (by omega)]; rfl

/-- What l01Args answers. -/
def ArgsAns (s : ByteArray) (w : World) (e : Ending) (w' : World) : Prop :=
  ∃ (nm : ByteArray) (xs : List ByteArray) (v : Value) (ok : Bool), e = .returned (.tuple #[.string nm, v, .bool ok]) ∧ sArgs (lst s) = (lst nm, xs.map lst, ok) ∧ nm.size ≤ s.size ∧ w'.ownsRow w.heap.size 9 1 v xs.length (strCells xs) ∧ Below w.heap.size w w'

/-- What its second loop holds. -/
def ArgsLoop (s : ByteArray) (a : Nat) (w : World) (v6 v7 v8 v9 v10 : Value) (wr : World) : Prop :=
  ∃ (i d fr : Nat) (q : Bool) (xs : List ByteArray), v10 = .int .i64 (i : Int) ∧ v9 = .int .i64 (fr : Int) ∧ v7 = .int .i64 (d : Int) ∧ v8 = .bool q ∧ i ≤ s.size ∧ a + 1 ≤ fr ∧ d ≤ i ∧ xs.length ≤ i ∧
    wr.ownsRow w.heap.size 9 1 v6 xs.length (strCells xs) ∧ Below w.heap.size w wr ∧
    ((i = a ∧ d = 0 ∧ q = false ∧ fr = a + 1 ∧ xs = []) ∨ (1 ≤ d ∧ fr ≤ i ∧ SC (lst s) a i d q fr (xs.map lst)))

theorem owns_empty9 (wr : World) (B : Nat) (hB : B ≤ wr.heap.size) : (wr.alloc (.cells #[] 9)).ownsRow B 9 1 (.slice (some ⟨wr.heap.size, 0, none⟩) 0 0) 0 (strCells []) :=
  ⟨rfl, .inr ⟨wr.heap.size, 0, #[], rfl, hB, heap_alloc_new _ _, Nat.le_refl _, by simp [maxLen], rfl, rfl⟩⟩

theorem sArgs_none {l : List UInt8} (h : stopAt isOpen l 0 = l.length) : sArgs l = (l, [], true) := by
  have h1 := stopAt_drop isOpen l 0
  rw [h, List.drop_zero, List.drop_length] at h1
  unfold sArgs
  rw [h1]
theorem sArgs_bad {l : List UInt8} {a : Nat} (h : stopAt isOpen l 0 = a) (ha : a < l.length) (hs : scan (l.drop (a + 1)) 1 false [] [] = none) : sArgs l = ([], [], false) := by
  have h1 := stopAt_drop isOpen l 0
  rw [h, List.drop_zero, List.drop_eq_getElem_cons ha] at h1
  unfold sArgs
  rw [h1]
  simp only
  rw [hs]
theorem sArgs_some {l : List UInt8} {a : Nat} {x : List (List UInt8) × List UInt8} (h : stopAt isOpen l 0 = a) (ha : a < l.length) (hs : scan (l.drop (a + 1)) 1 false [] [] = some x) : sArgs l = (l.take a, x.1, x.2.isEmpty) := by
  have h1 := stopAt_drop isOpen l 0
  have h2 := stopAt_take isOpen l 0
  rw [h, List.drop_zero, Nat.sub_zero] at h2
  rw [h, List.drop_zero, List.drop_eq_getElem_cons ha] at h1
  unfold sArgs
  rw [h1]
  simp only
  rw [hs, h2]

theorem undrew {w w' : World} {row : Option Nat} (h : w.drew.grownBy w' row) : w.grownBy w' row := ⟨h.os, h.tape, h.output, h.size, h.block⟩
theorem strCells_one (l : List ByteArray) : ∀ u ∈ strCells l, u.oneCell' = true := fun u hu => by
  obtain ⟨_, _, rfl⟩ := List.mem_map.1 hu
  rfl
theorem u8_ne {c : UInt8} {k : UInt8} (h : ¬ c = k) : ((c.toNat : Int) == (k.toNat : Int)) = false := beq_eq_false_iff_ne.2 (fun h' => h (UInt8.toNat_inj.1 (by omega)))

set_option maxRecDepth 100000 in
set_option maxHeartbeats 4000000 in
theorem l01Args_any (s : ByteArray) (hs : s.size ≤ 200) (w : World) : Calls Tryz.prog 47 #[.string s] w (ArgsAns s w) := by
  have hl := lst_len s
  obtain ⟨i0, hi0, hz0, hz1, hz2⟩ := info_parts info9
  go_enter Tryz.func47, Tryz.ntmps47
  go_wp2
  go_loopw [5] (fun v wr => ScanRel isOpen s 0 w v wr) (fun v _ => (s.size - (intOf v).toNat))
  case atStart => exact ⟨0, rfl, rfl, Nat.le_refl _, Nat.zero_le _, fun j h a b => by omega⟩
  case round =>
    obtain ⟨r, rfl, rfl, hqr, hr, hall⟩ := hrel
    have HALL := Lib.hid hall
    clear hall
    by_cases hlt : r < s.size
    · by_cases hd : isOpen s[r] = true
      · have hne : ((s[r].toNat : Int) != 40) = true := by
          rw [bne_iff_ne]
          intro h
          have : s[r] = 40 := by
            apply UInt8.toNat_inj.1
            show s[r].toNat = 40
            omega
          rw [this] at hd
          exact absurd hd (by decide)
        have hd2 : ∀ j (h : j < (lst s).length), 0 ≤ j → j < r + 1 → isOpen (lst s)[j] = true := fun j h a b => by
          by_cases hj : j < r
          · exact HALL.out j h a hj
          · obtain rfl : j = r := by omega
            exact hd
        have HD2 := Lib.hid hd2
        clear hd2
        go_wp2
        go_roundw
        case rel => exact ⟨r + 1, rfl, by go_num, by omega, by omega, HD2.out⟩
        case measure => simp [intOf]; omega
      · have hd : isOpen s[r] = false := by simpa using hd
        have h40 : s[r] = 40 := by simpa [isOpen] using hd
        have hne : ((s[r].toNat : Int) != 40) = false := by rw [h40]; rfl
        have hse : ((r : Int) == (s.size : Int)) = false := beq_eq_false_iff_ne.2 (by omega)
        have HST := Lib.hid (stopAt_eq hqr (by rw [lst_len]; exact hr) HALL.out (fun _ => hd))
        have H40 := Lib.hid h40
        clear hd h40 HALL
        go_wp2
        go_loopw [6, 7, 8, 9, 10] (fun v6 v7 v8 v9 v10 wr => ArgsLoop s r w v6 v7 v8 v9 v10 wr) (fun _ _ _ _ v10 _ => (s.size - (intOf v10).toNat))
        case atStart => exact ⟨r, 0, r + 1, false, [], rfl, by go_num, rfl, rfl, by omega, Nat.le_refl _, Nat.zero_le _, Nat.zero_le _, owns_empty9 w _ (Nat.le_refl _), (Below.refl _ _).alloc (Nat.le_refl _) _, .inl ⟨rfl, rfl, rfl, rfl, rfl⟩⟩
        case round =>
          obtain ⟨i, d, fr, q, xs, rfl, rfl, rfl, rfl, g1, g2, g3, g4, hown, hbel, hst⟩ := hrel
          have hBs := hbel.size
          obtain ⟨av, cv, rfl⟩ := owns_shape hown
          rcases hst with ⟨h1, h2, h3, h4, h5⟩ | ⟨hd1, hfi, hsc⟩
          · -- the first bracket
            subst h1 h2 h3 h4 h5
            have he34 : ((s[i].toNat : Int) == 34) = false := by rw [H40.out]; rfl
            have he40 : ((s[i].toNat : Int) == 40) = true := by rw [H40.out]; rfl
            have R : ArgsLoop s i w (.slice av ([] : List ByteArray).length cv) (.int .i64 1) (.bool false) (.int .i64 ((i + 1 : Nat) : Int)) (.int .i64 ((i : Int) + 1)) wr :=
              ⟨i + 1, 1, i + 1, false, [], by go_num, rfl, rfl, rfl, by omega, Nat.le_refl _, by omega, by simp, hown, hbel, .inr ⟨Nat.le_refl _, Nat.le_refl _, by unfold SC; simp⟩⟩
            have HR := Lib.hid R
            clear R hown hbel H40
            go_wp2
            go_roundw
            case rel => exact HR.out
            case measure => simp [intOf]; omega
          · have HSC := Lib.hid hsc
            clear hsc
            by_cases hil : i < s.size
            · have hill : i < (lst s).length := by omega
              by_cases h34 : s[i] = 34
              · have he34 : ((s[i].toNat : Int) == 34) = true := by rw [h34]; rfl
                have R : ArgsLoop s r w (.slice av xs.length cv) (.int .i64 (d : Int)) (.bool (!q)) (.int .i64 (fr : Int)) (.int .i64 ((i : Int) + 1)) wr :=
                  ⟨i + 1, d, fr, !q, xs, by go_num, rfl, rfl, rfl, by omega, g2, by omega, by omega, hown, hbel, .inr ⟨hd1, by omega, sc_quote HSC.out hfi hill h34⟩⟩
                have HR := Lib.hid R
                clear R hown hbel h34 H40
                go_wp2
                go_roundw
                case rel => exact HR.out
                case measure => simp [intOf]; omega
              · have he34 : ((s[i].toNat : Int) == 34) = false := u8_ne h34
                cases q with
                | true =>
                  have R : ArgsLoop s r w (.slice av xs.length cv) (.int .i64 (d : Int)) (.bool true) (.int .i64 (fr : Int)) (.int .i64 ((i : Int) + 1)) wr :=
                    ⟨i + 1, d, fr, true, xs, by go_num, rfl, rfl, rfl, by omega, g2, by omega, by omega, hown, hbel, .inr ⟨hd1, by omega, sc_in HSC.out hfi hill h34⟩⟩
                  have HR := Lib.hid R
                  clear R hown hbel h34 H40
                  go_wp2
                  go_roundw
                  case rel => exact HR.out
                  case measure => simp [intOf]; omega
                | false =>
                  by_cases h40 : s[i] = 40
                  · have he40 : ((s[i].toNat : Int) == 40) = true := by rw [h40]; rfl
                    have R : ArgsLoop s r w (.slice av xs.length cv) (.int .i64 ((d : Int) + 1)) (.bool false) (.int .i64 (fr : Int)) (.int .i64 ((i : Int) + 1)) wr :=
                      ⟨i + 1, d + 1, fr, false, xs, by go_num, rfl, by go_num, rfl, by omega, g2, by omega, by omega, hown, hbel, .inr ⟨by omega, by omega, sc_open HSC.out hfi hill h40⟩⟩
                    have HR := Lib.hid R
                    clear R hown hbel h34 h40 H40
                    go_wp2
                    go_roundw
                    case rel => exact HR.out
                    case measure => simp [intOf]; omega
                  · have he40 : ((s[i].toNat : Int) == 40) = false := u8_ne h40
                    by_cases h41 : s[i] = 41
                    · have he41 : ((s[i].toNat : Int) == 41) = true := by rw [h41]; rfl
                      by_cases hd : d = 1
                      · subst hd
                        have HE := Lib.hid (sc_end HSC.out hill h41)
                        clear h34 h40 h41 H40
                        have hol := hown.alloc (.cells #[.string (s.extract fr i)] 9)
                        have hnb : ∀ j u, [Value.string (s.extract fr i)][j]? = some u → (wr.alloc (.cells #[.string (s.extract fr i)] 9)).cell? ((⟨wr.heap.size, 0, none⟩ : Addr).add j) = some u := World.news_of_block (cs := #[.string (s.extract fr i)]) (t := 9) (fr := (0, 0)) (heap_alloc_new wr _)
                        have fin : ∀ (g cap : Nat) (w2 : World), w2.ownsRow w.heap.size 9 1 (.slice (some ⟨g, 0, none⟩) (xs.length + 1) cap) (xs.length + 1) (strCells xs ++ [.string (s.extract fr i)]) → (wr.alloc (.cells #[.string (s.extract fr i)] 9)).grownBy w2 (Value.slice av xs.length cv).ownBlock →
                            w2.ownsRow w.heap.size 9 1 (.slice (some ⟨g, 0, none⟩) (xs.length + 1) cap) (xs ++ [s.extract fr i]).length (strCells (xs ++ [s.extract fr i])) ∧ Below w.heap.size w w2 := fun g cap w2 ho hg =>
                          ⟨by rw [List.length_append]; simp only [strCells, List.map_append]; exact ho, (hbel.alloc hBs _).grown hg (by simp; omega) (own_ge hol)⟩
                        have HOL := Lib.hid hol
                        have HNB := Lib.hid hnb
                        have FIN := Lib.hid fin
                        have hxe : lst (s.extract fr i) = ((lst s).drop fr).take (i - fr) := lst_extract s fr i
                        have HX := Lib.hid hxe
                        clear hol hnb fin hxe
                        have hemp : ((lst s).drop (i + 1)).isEmpty = ((i : Int) == IntKind.i64.wrap ((s.size : Int) - 1)) := by
                          rw [IntWalk.i64_in _ (by omega), Bool.eq_iff_iff, List.isEmpty_iff, List.drop_eq_nil_iff, beq_iff_eq]
                          omega
                        have P : ∀ (g cap : Nat) (w2 : World), w2.ownsRow w.heap.size 9 1 (.slice (some ⟨g, 0, none⟩) (xs.length + 1) cap) (xs ++ [s.extract fr i]).length (strCells (xs ++ [s.extract fr i])) → Below w.heap.size w w2 →
                            ArgsAns s w (.returned (.tuple #[.string (s.extract 0 r), .slice (some ⟨g, 0, none⟩) (xs.length + 1) cap, .bool ((i : Int) == IntKind.i64.wrap ((s.size : Int) - 1))])) w2 := fun g cap w2 ho hb =>
                          ⟨s.extract 0 r, xs ++ [s.extract fr i], _, _, rfl, by
                            rw [sArgs_some HST.out (by omega) HE.out, lst_extract, List.drop_zero, Nat.sub_zero, List.map_append, List.map_cons, List.map_nil, HX.out, hemp], by rw [← lst_len, lst_extract, List.length_take, List.length_drop, lst_len]; omega, ho, hb⟩
                        have HP := Lib.hid P
                        clear P hemp HX HE hown hbel
                        go_wp2
                        go_region_law (refine step_append_lies _ (by rfl) (.tmp 67) (.tmp 72) 29 (by rfl) w.heap.size 9 i0 _ 1 16 Tryz.underlying29 hi0 hz0 hz1 hz2 rfl (by omega) (.slice av xs.length cv) xs.length (strCells xs) (by rfl) (HOL.out.drew) ⟨wr.heap.size, 0, none⟩ 1 1 [.string (s.extract fr i)] (by rfl) (by rfl) HNB.out (by simp [Value.oneCell']) (by omega) (by unfold maxLen; omega) (by omega) (by simp; omega) (wr.heap.size + 1) (by simp) ?_; intro g cap w2 ho2 hg2 hat2 hlt2; have P2 := HP.out g cap w2 (FIN.out g cap w2 ho2 (undrew hg2)).1 (FIN.out g cap w2 ho2 (undrew hg2)).2; have HP2 := Lib.hid P2; clear P2)
                        all_goals
                          clear ho2 hg2 hat2 hlt2
                          go_frame
                          go_wp2
                          rename_i _ d1 h1 _ d2 h2
                          obtain rfl : d1 = 4 := (Option.some.inj (show some 4 = some d1 from h1)).symm
                          obtain rfl : d2 = 3 := (Option.some.inj (show some 3 = some d2 from h2)).symm
                          clear h1 h2
                          simp only [List.set_cons_succ, List.set_cons_zero]
                          go_ret3
                          exact HP2.out
                      · have hd0 : ((d : Int) - 1 == 0) = false := beq_eq_false_iff_ne.2 (by omega)
                        have R : ArgsLoop s r w (.slice av xs.length cv) (.int .i64 ((d : Int) - 1)) (.bool false) (.int .i64 (fr : Int)) (.int .i64 ((i : Int) + 1)) wr :=
                          ⟨i + 1, d - 1, fr, false, xs, by go_num, rfl, by go_num, rfl, by omega, g2, by omega, by omega, hown, hbel, .inr ⟨by omega, by omega, sc_close HSC.out hfi hill h41 hd⟩⟩
                        have HR := Lib.hid R
                        clear R hown hbel h34 h40 h41 H40
                        go_wp2
                        go_roundw
                        case rel => exact HR.out
                        case measure => simp [intOf]; omega
                    · have he41 : ((s[i].toNat : Int) == 41) = false := u8_ne h41
                      by_cases h44 : s[i] = 44 ∧ d = 1
                      · obtain ⟨h44, rfl⟩ := h44
                        have he44 : ((s[i].toNat : Int) == 44) = true := by rw [h44]; rfl
                        have HE := Lib.hid (sc_cut HSC.out hill h44)
                        clear h34 h40 h41 h44 H40
                        have hol := hown.alloc (.cells #[.string (s.extract fr i)] 9)
                        have hnb : ∀ j u, [Value.string (s.extract fr i)][j]? = some u → (wr.alloc (.cells #[.string (s.extract fr i)] 9)).cell? ((⟨wr.heap.size, 0, none⟩ : Addr).add j) = some u := World.news_of_block (cs := #[.string (s.extract fr i)]) (t := 9) (fr := (0, 0)) (heap_alloc_new wr _)
                        have fin : ∀ (g cap : Nat) (w2 : World), w2.ownsRow w.heap.size 9 1 (.slice (some ⟨g, 0, none⟩) (xs.length + 1) cap) (xs.length + 1) (strCells xs ++ [.string (s.extract fr i)]) → (wr.alloc (.cells #[.string (s.extract fr i)] 9)).grownBy w2 (Value.slice av xs.length cv).ownBlock →
                            w2.ownsRow w.heap.size 9 1 (.slice (some ⟨g, 0, none⟩) (xs.length + 1) cap) (xs ++ [s.extract fr i]).length (strCells (xs ++ [s.extract fr i])) ∧ Below w.heap.size w w2 := fun g cap w2 ho hg =>
                          ⟨by rw [List.length_append]; simp only [strCells, List.map_append]; exact ho, (hbel.alloc hBs _).grown hg (by simp; omega) (own_ge hol)⟩
                        have HOL := Lib.hid hol
                        have HNB := Lib.hid hnb
                        have FIN := Lib.hid fin
                        have hxe : lst (s.extract fr i) = ((lst s).drop fr).take (i - fr) := lst_extract s fr i
                        have HX := Lib.hid hxe
                        clear hol hnb fin hxe
                        go_wp2_with (at_builtin; refine wpList_append_lies _ rfl (.tmp 88) (.tmp 93) 29 rfl w.heap.size 9 i0 (.string ⟨#[]⟩) 1 16 Tryz.underlying29 hi0 hz0 hz1 hz2 rfl (by decide) (.slice av xs.length cv) xs.length (strCells xs) rfl HOL.out ⟨wr.heap.size, 0, none⟩ 1 1 [.string (s.extract fr i)] rfl rfl HNB.out (by simp [Value.oneCell']) (by omega) (by unfold maxLen; omega) (by omega) (by simp; omega) _ rfl ?_)
                        intro g cap w2 ho2 hg2 _ _
                        obtain ⟨k1, k2⟩ := FIN.out g cap w2 ho2 hg2
                        have R : ArgsLoop s r w (.slice (some ⟨g, 0, none⟩) (xs.length + 1) cap) (.int .i64 ((1 : Nat) : Int)) (.bool false) (.int .i64 ((i : Int) + 1)) (.int .i64 ((i : Int) + 1)) w2 :=
                          ⟨i + 1, 1, i + 1, false, xs ++ [s.extract fr i], by go_num, by go_num, rfl, rfl, by omega, by omega, by omega, by simp; omega, k1, k2, .inr ⟨Nat.le_refl _, Nat.le_refl _, by
                            rw [List.map_append, List.map_cons, List.map_nil, HX.out]; exact HE.out⟩⟩
                        have HR := Lib.hid R
                        clear R ho2 hg2 k1 k2 HOL HNB FIN HX HE hown hbel
                        go_wp2
                        go_roundw
                        case rel => exact HR.out
                        case measure => simp [intOf]; omega
                        · rename_i hh
                          exact absurd (beq_iff_eq.1 he44) hh
                      · have R : ArgsLoop s r w (.slice av xs.length cv) (.int .i64 (d : Int)) (.bool false) (.int .i64 (fr : Int)) (.int .i64 ((i : Int) + 1)) wr :=
                          ⟨i + 1, d, fr, false, xs, by go_num, rfl, rfl, rfl, by omega, g2, by omega, by omega, hown, hbel, .inr ⟨hd1, by omega, sc_go HSC.out hfi hill h34 h40 h41 h44⟩⟩
                        have HR := Lib.hid R
                        by_cases h44c : s[i] = 44
                        · have he44 : ((s[i].toNat : Int) == 44) = true := by rw [h44c]; rfl
                          have hdn : ((d : Int) == 1) = false := beq_eq_false_iff_ne.2 (fun h => h44 ⟨h44c, by omega⟩)
                          clear R hown hbel h34 h40 h41 h44 h44c H40
                          go_wp2
                          all_goals
                            go_roundw
                            case rel => exact HR.out
                            case measure => simp [intOf]; omega
                        · have he44 : ((s[i].toNat : Int) == 44) = false := u8_ne h44c
                          clear R hown hbel h34 h40 h41 h44 h44c H40
                          go_wp2
                          go_roundw
                          case rel => exact HR.out
                          case measure => simp [intOf]; omega
            · have hlt2 : decide ((i : Int) < (s.size : Int)) = false := decide_eq_false (by omega)
              have P : ∀ w2 v, w2.ownsRow w.heap.size 9 1 v 0 (strCells []) → Below w.heap.size w w2 → ArgsAns s w (.returned (.tuple #[.string ⟨#[]⟩, v, .bool false])) w2 := fun w2 v ho hb =>
                ⟨⟨#[]⟩, [], v, false, rfl, sArgs_bad HST.out (by omega) (sc_none HSC.out (by omega)), Nat.zero_le _, ho, hb⟩
              have HP := Lib.hid (P _ _ (owns_empty9 wr _ hBs) (hbel.alloc hBs _))
              clear P hown hbel H40
              go_wp2
              go_ret3
              exact HP.out
    · have P : ∀ w2, w2.ownsRow w.heap.size 9 1 (.slice (some ⟨w.heap.size, 0, none⟩) 0 0) 0 (strCells []) → Below w.heap.size w w2 → ArgsAns s w (.returned (.tuple #[.string s, .slice (some ⟨w.heap.size, 0, none⟩) 0 0, .bool true])) w2 := fun w2 ho hb =>
        ⟨s, [], _, true, rfl, sArgs_none (by rw [stopAt_eq hqr (by rw [lst_len]; exact hr) HALL.out (fun h => by rw [lst_len] at h; omega)]; omega), Nat.le_refl _, ho, hb⟩
      have HP := Lib.hid (P _ (owns_empty9 w _ (Nat.le_refl _)) ((Below.refl _ _).alloc (Nat.le_refl _) _))
      have hlt2 : decide ((r : Int) < (s.size : Int)) = false := decide_eq_false (by omega)
      have hse : ((r : Int) == (s.size : Int)) = true := beq_iff_eq.2 (by omega)
      clear P HALL
      go_wp2
      go_ret3
      exact HP.out

end Go.Proofs.YtcohjmbbanjjeaaGreatDoor

namespace Go.Proofs.YtcohjmbbanjjeaaGreatDoor
open Go Go.RowKit

theorem glue_len : ∀ (args : List (List UInt8)) (a : List UInt8), a ∈ args → a.length ≤ (glue args).length
  | [b], a, h => by
    obtain rfl : a = b := by simpa using h
    exact Nat.le_refl _
  | b :: c :: r, a, h => by
    show a.length ≤ (b ++ 44 :: glue (c :: r)).length
    rw [List.length_append, List.length_cons]
    rcases List.mem_cons.1 h with rfl | h
    · omega
    · have := glue_len (c :: r) a h
      omega
  | [], a, h => by cases h

theorem sArgs_len {l : List UInt8} {a : List UInt8} (h : a ∈ (sArgs l).2.1) : a.length < l.length := by
  cases hd : l.dropWhile isOpen with
  | nil =>
    have e : sArgs l = (l, [], true) := by unfold sArgs; rw [hd]
    rw [e] at h
    cases h
  | cons c r =>
    cases hsc : scan r 1 false [] [] with
    | none =>
      have e : sArgs l = ([], [], false) := by unfold sArgs; rw [hd]; simp only; rw [hsc]
      rw [e] at h
      cases h
    | some x =>
      obtain ⟨args, rest⟩ := x
      have e : sArgs l = (l.takeWhile isOpen, args, rest.isEmpty) := by unfold sArgs; rw [hd]; simp only; rw [hsc]
      rw [e] at h
      obtain ⟨args', h3, _, h5⟩ := scan_back _ _ _ _ _ _ _ hsc
      rw [List.nil_append] at h3 h5
      subst h3
      have h6 := glue_len args a h
      have h7 := congrArg List.length h5
      rw [List.length_append, List.length_cons] at h7
      have h8 := congrArg List.length (List.takeWhile_append_dropWhile (p := isOpen) (l := l))
      rw [hd, List.length_append, List.length_cons] at h8
      omega

theorem glue_count : ∀ (args : List (List UInt8)), args.length ≤ (glue args).length + 1
  | [] => Nat.zero_le _
  | [b] => by simp
  | b :: c :: r => by
    have := glue_count (c :: r)
    show (b :: c :: r).length ≤ (b ++ 44 :: glue (c :: r)).length + 1
    have e1 : (b :: c :: r).length = (c :: r).length + 1 := rfl
    have e2 : (b ++ 44 :: glue (c :: r)).length = b.length + ((glue (c :: r)).length + 1) := by rw [List.length_append, List.length_cons]
    omega
theorem sArgs_count (l : List UInt8) : (sArgs l).2.1.length ≤ l.length := by
  cases hd : l.dropWhile isOpen with
  | nil =>
    have e : sArgs l = (l, [], true) := by unfold sArgs; rw [hd]
    rw [e]; exact Nat.zero_le _
  | cons c r =>
    cases hsc : scan r 1 false [] [] with
    | none =>
      have e : sArgs l = ([], [], false) := by unfold sArgs; rw [hd]; simp only; rw [hsc]
      rw [e]; exact Nat.zero_le _
    | some x =>
      obtain ⟨args, rest⟩ := x
      have e : sArgs l = (l.takeWhile isOpen, args, rest.isEmpty) := by unfold sArgs; rw [hd]; simp only; rw [hsc]
      rw [e]
      obtain ⟨args', h3, _, h5⟩ := scan_back _ _ _ _ _ _ _ hsc
      rw [List.nil_append] at h3 h5
      subst h3
      have h6 := glue_count args
      have h7 := congrArg List.length h5
      rw [List.length_append, List.length_cons] at h7
      have h8 := congrArg List.length (List.takeWhile_append_dropWhile (p := isOpen) (l := l))
      rw [hd, List.length_append, List.length_cons] at h8
      show args.length ≤ l.length
      omega

theorem sk_num {f : Nat} {l : List UInt8} {n : Int} (h0 : l ≠ []) (h1 : l.length ≤ 200) (h : numOf l = some n) : sKind (f + 1) l = 1 := by
  rw [sKind, if_neg (fun x => x.elim h0 (by omega)), h]; rfl
theorem sk_sym {f : Nat} {l : List UInt8} (h0 : l ≠ []) (h1 : l.length ≤ 200) (h : numOf l = none) (hh : l.head? = some 34) : sKind (f + 1) l = if symOk l then 2 else 0 := by
  rw [sKind, if_neg (fun x => x.elim h0 (by omega)), h, if_neg (by simp), if_pos hh]
theorem sk_con {f : Nat} {l : List UInt8} (h0 : l ≠ []) (h1 : l.length ≤ 200) (h : numOf l = none) (hh : ¬ l.head? = some 34) :
    sKind (f + 1) l = if (sArgs l).2.2 && bigName (sArgs l).1 then (if (sArgs l).2.1.all (fun a => sKind f a != 0) then 3 else 0) else 0 := by
  rw [sKind, if_neg (fun x => x.elim h0 (by omega)), h, if_neg (by simp), if_neg hh]

/-- symOk, place by place. -/
theorem symOk_iff (s : ByteArray) (hp : 2 ≤ s.size) (h22 : s.size ≤ 22) (hlast : s[s.size - 1] = 34) : symOk (lst s) = true ↔ ∀ j (h : j < s.size), 1 ≤ j → j + 1 < s.size → isSyB s[j] = true := by
  have hl := lst_len s
  have hgl : (lst s).getLast? = some 34 := by
    rw [List.getLast?_eq_getElem?, hl, List.getElem?_eq_getElem (by omega)]
    exact congrArg some hlast
  simp only [symOk, hgl, beq_self_eq_true, Bool.and_true, Bool.and_eq_true, decide_eq_true_eq, List.all_eq_true]
  constructor
  · rintro ⟨_, h⟩ j hj h1 h2
    have hm : (lst s)[j]'(by omega) ∈ (lst s).tail.dropLast := by
      have h3 : j - 1 < (lst s).tail.dropLast.length := by rw [List.length_dropLast, List.length_tail]; omega
      have h4 : (lst s).tail.dropLast[j - 1] = (lst s)[j]'(by omega) := by
        rw [List.getElem_dropLast, List.getElem_tail]
        simp only [show j - 1 + 1 = j from by omega]
      rw [← h4]
      exact List.getElem_mem _
    exact h _ hm
  · intro h
    refine ⟨⟨by omega, by omega⟩, fun c hc => ?_⟩
    obtain ⟨k, hk, rfl⟩ := List.getElem_of_mem hc
    rw [List.length_dropLast, List.length_tail] at hk
    rw [List.getElem_dropLast, List.getElem_tail]
    exact h (k + 1) (by omega) (by omega) (by omega)

def MidRel (s : ByteArray) (w : World) (v : Value) (wr : World) : Prop :=
  ∃ r : Nat, w = wr ∧ v = .int .i64 (r : Int) ∧ 1 ≤ r ∧ r + 1 ≤ s.size ∧ ∀ j (h : j < s.size), 1 ≤ j → j < r → isSyB s[j] = true

/-- The arguments gone by are terms. -/
def ArgsGone (f : Nat) (w : World) (xs : List ByteArray) (base : Nat) (vs : Value) (v : Value) (wr : World) : Prop :=
  ∃ k : Nat, v = .int .i64 (k : Int) ∧ k ≤ xs.length ∧ (∀ j (h : j < xs.length), j < k → sKind f (lst xs[j]) ≠ 0) ∧ wr.ownsRow base 9 1 vs xs.length (strCells xs) ∧ Below w.heap.size w wr

theorem all_kinds {f : Nat} {xs : List ByteArray} (h : ∀ j (h : j < xs.length), sKind f (lst xs[j]) ≠ 0) : (xs.map lst).all (fun a => sKind f a != 0) = true := by
  rw [List.all_map, List.all_eq_true]
  intro x hx
  obtain ⟨j, hj, rfl⟩ := List.getElem_of_mem hx
  simp only [Function.comp, bne_iff_ne]
  exact h j hj
theorem not_all_kinds {f : Nat} {xs : List ByteArray} {j : Nat} (hj : j < xs.length) (h : sKind f (lst xs[j]) = 0) : (xs.map lst).all (fun a => sKind f a != 0) = false := by
  cases hx : (xs.map lst).all (fun a => sKind f a != 0) with
  | false => rfl
  | true =>
    rw [List.all_map, List.all_eq_true] at hx
    have := hx xs[j] (List.getElem_mem hj)
    simp [Function.comp, h] at this

def KindSaid (f : Nat) : Prop := ∀ (s : ByteArray) (w : World), s.size < f → s.size ≤ 140737488351232 → Calls Tryz.prog 35 #[.string s] w fun e w' => e = .returned (.int .i64 (sKind f (lst s))) ∧ Below w.heap.size w w'

set_option maxRecDepth 100000 in
set_option maxHeartbeats 4000000 in
theorem specKind_step (f : Nat) (ih : KindSaid f) : KindSaid (f + 1) := by
  intro s w hf hlim
  have hl := lst_len s
  by_cases h0 : s.size = 0
  · have e : sKind (f + 1) (lst s) = 0 := by
      have : lst s = [] := List.length_eq_zero_iff.1 (by omega)
      rw [this, sKind, if_pos (.inl rfl)]
    rw [e]
    obtain rfl : s = ⟨#[]⟩ := lst_inj (by rw [List.length_eq_zero_iff.1 (by omega : (lst s).length = 0)]; rfl)
    clear e h0 hl ih
    go_enter Tryz.func35, Tryz.ntmps35
    go_wp2
    go_ret
    exact ⟨rfl, Below.refl _ _⟩
  · have hne : (s.toList == []) = false := by
      rw [ByteArray.toList_eq]
      exact beq_eq_false_iff_ne.2 (fun h => h0 (by rw [← hl]; show s.data.toList.length = 0; rw [h]; rfl))
    have hp : 0 < s.size := by omega
    have hne2 : lst s ≠ [] := fun h => h0 (by rw [← hl, h]; rfl)
    have hhd : (lst s).head? = some s[0] := by
      rw [List.head?_eq_getElem?, List.getElem?_eq_getElem (by omega)]; rfl
    have IH := Lib.hid ih
    clear h0 ih
    by_cases h200 : s.size ≤ 200
    · have hgt : decide ((200 : Int) < (s.size : Int)) = false := decide_eq_false (by omega)
      have hgt' : decide (200 < s.size) = false := decide_eq_false (by omega)
      go_enter Tryz.func35, Tryz.ntmps35
      go_wp2_with fail
      refine (l01Number_any s hlim _).mono ?_
      rintro e w1 ⟨n, ok, rfl, (⟨rfl, hn⟩ | ⟨rfl, hn⟩), hb1⟩
      · have HK := Lib.hid (sk_num (f := f) hne2 (by omega) hn)
        clear hn
        go_wp2
        go_ret
        rw [HK.out]
        exact ⟨rfl, hb1⟩
      · by_cases h34 : s[0] = 34
        · have he34 : ((s[0].toNat : Int) == 34) = true := by rw [h34]; rfl
          have HK := Lib.hid (sk_sym (f := f) hne2 (by omega) hn (by rw [hhd, h34]))
          clear hn h34
          by_cases h22 : 2 ≤ s.size ∧ s.size ≤ 22
          · have hb : bet (s.size : Int) 2 22 = true := bet_in (by omega) (by omega)
            have h2 := h22.1
            have h3 := h22.2
            have hlt1 : s.size - 1 < s.size := by omega
            have ecast : ((s.size : Int) - 1) = ((s.size - 1 : Nat) : Int) := by omega
            by_cases hla : s[s.size - 1] = 34
            · have hne34 : ((s[s.size - 1].toNat : Int) != 34) = false := by rw [hla]; rfl
              have HSY := Lib.hid (symOk_iff s h2 h3 hla)
              clear h22 hla ecast
              go_wp2_with (go_at_call 16; refine (between_any _ _ _ _).mono ?_; rintro e w' ⟨rfl, rfl⟩)
              go_loopw [5] (fun v wr => MidRel s w1 v wr) (fun v _ => (s.size - (intOf v).toNat))
              case atStart => exact ⟨1, rfl, rfl, Nat.le_refl _, by omega, fun j h a b => by omega⟩
              case round =>
                obtain ⟨r, rfl, rfl, hr1, hr2, hall⟩ := hrel
                have HALL := Lib.hid hall
                clear hall
                by_cases hlt : r + 1 < s.size
                · have hrs : r < s.size := by omega
                  have hc := s[r].toNat_lt
                  by_cases hd : isSyB s[r] = true
                  · have R : MidRel s w1 (.int .i64 ((r : Int) + 1)) w1 := ⟨r + 1, rfl, by go_num, by omega, by omega, fun j h a b => by
                      by_cases hj : j < r
                      · exact HALL.out j h a hj
                      · obtain rfl : j = r := by omega
                        exact hd⟩
                    have HR := Lib.hid R
                    have hd' := hd
                    simp only [isSyB, Bool.and_eq_true, decide_eq_true_eq, bne_iff_ne] at hd'
                    have hb5 : bet ((s[r].toNat : Nat) : Int) 32 126 = true := bet_in (by omega) (by omega)
                    have h34' : ((s[r].toNat : Int) == 34) = false := beq_eq_false_iff_ne.2 (by omega)
                    have h92' : ((s[r].toNat : Int) == 92) = false := beq_eq_false_iff_ne.2 (by omega)
                    clear R hd hd'
                    go_wp2_with (go_at_call 16; refine (between_any _ _ _ _).mono ?_; rintro e w' ⟨rfl, rfl⟩)
                    go_roundw
                    case rel => exact HR.out
                    case measure => simp [intOf]; omega
                  · have hF : symOk (lst s) = false := by
                      cases hx : symOk (lst s) with
                      | false => rfl
                      | true => exact absurd (HSY.out.1 hx r hrs hr1 hlt) hd
                    rw [hF] at HK
                    clear hF
                    have hcases : bet ((s[r].toNat : Nat) : Int) 32 126 = false ∨ (bet ((s[r].toNat : Nat) : Int) 32 126 = true ∧ s[r].toNat = 34) ∨ (bet ((s[r].toNat : Nat) : Int) 32 126 = true ∧ ¬ s[r].toNat = 34 ∧ s[r].toNat = 92) := by
                      simp only [isSyB, Bool.and_eq_true, decide_eq_true_eq, bne_iff_ne] at hd
                      by_cases h1 : 32 ≤ s[r].toNat ∧ s[r].toNat ≤ 126
                      · have hb5 : bet ((s[r].toNat : Nat) : Int) 32 126 = true := bet_in (by omega) (by omega)
                        by_cases h2 : s[r].toNat = 34
                        · exact .inr (.inl ⟨hb5, h2⟩)
                        · exact .inr (.inr ⟨hb5, h2, by omega⟩)
                      · left
                        by_cases h3 : 32 ≤ s[r].toNat
                        · exact bet_hi (by omega)
                        · exact bet_lo (by omega)
                    clear hd
                    rcases hcases with hb5 | ⟨hb5, h34'⟩ | ⟨hb5, h34', h92'⟩
                    · go_wp2_with (go_at_call 16; refine (between_any _ _ _ _).mono ?_; rintro e w' ⟨rfl, rfl⟩)
                      go_ret
                      rw [HK.out]
                      exact ⟨rfl, hb1⟩
                    · have h34b : ((s[r].toNat : Int) == 34) = true := beq_iff_eq.2 (by omega)
                      clear h34'
                      go_wp2_with (go_at_call 16; refine (between_any _ _ _ _).mono ?_; rintro e w' ⟨rfl, rfl⟩)
                      go_ret
                      rw [HK.out]
                      exact ⟨rfl, hb1⟩
                    · have h34b : ((s[r].toNat : Int) == 34) = false := beq_eq_false_iff_ne.2 (by omega)
                      have h92b : ((s[r].toNat : Int) == 92) = true := beq_iff_eq.2 (by omega)
                      clear h34' h92'
                      go_wp2_with (go_at_call 16; refine (between_any _ _ _ _).mono ?_; rintro e w' ⟨rfl, rfl⟩)
                      go_ret
                      rw [HK.out]
                      exact ⟨rfl, hb1⟩
                · have hT : symOk (lst s) = true := HSY.out.2 (fun j h a b => HALL.out j h a (by omega))
                  rw [hT] at HK
                  have hlt2 : decide ((r : Int) + 1 < (s.size : Int)) = false := decide_eq_false (by omega)
                  clear hT
                  go_wp2
                  go_ret
                  rw [HK.out]
                  exact ⟨rfl, hb1⟩
            · have hne34 : ((s[s.size - 1].toNat : Int) != 34) = true := by
                rw [bne_iff_ne]
                intro h
                exact hla (UInt8.toNat_inj.1 (by show s[s.size - 1].toNat = 34; omega))
              have hF : symOk (lst s) = false := by
                cases hx : symOk (lst s) with
                | false => rfl
                | true =>
                  exfalso
                  apply hla
                  simp only [symOk, Bool.and_eq_true, beq_iff_eq] at hx
                  have h5 := hx.1.2
                  rw [List.getLast?_eq_getElem?, hl, List.getElem?_eq_getElem (by omega)] at h5
                  exact Option.some.inj h5
              rw [hF] at HK
              clear h22 hla hF ecast
              go_wp2_with (go_at_call 16; refine (between_any _ _ _ _).mono ?_; rintro e w' ⟨rfl, rfl⟩)
              go_ret
              rw [HK.out]
              exact ⟨rfl, hb1⟩
          · have hb : bet (s.size : Int) 2 22 = false := by
              by_cases h : 2 ≤ s.size
              · exact bet_hi (by omega)
              · exact bet_lo (by omega)
            have hF : symOk (lst s) = false := by
              cases hx : symOk (lst s) with
              | false => rfl
              | true =>
                simp only [symOk, Bool.and_eq_true, decide_eq_true_eq] at hx
                omega
            rw [hF] at HK
            clear h22 hF
            go_wp2_with (go_at_call 16; refine (between_any _ _ _ _).mono ?_; rintro e w' ⟨rfl, rfl⟩)
            go_ret
            rw [HK.out]
            exact ⟨rfl, hb1⟩
        · have he34 : ((s[0].toNat : Int) == 34) = false := u8_ne h34
          have HK := Lib.hid (sk_con (f := f) hne2 (by omega) hn (by rw [hhd]; intro h; exact h34 (Option.some.inj h)))
          clear hn h34
          go_wp2_with fail
          refine (l01Args_any s h200 _).mono ?_
          rintro e w2 ⟨nm, xs, v, ok, rfl, hsa, hnm, hown, hb2⟩
          have hb12 := hb1.trans (hb2.mono hb1.size)
          rw [hsa] at HK
          have hxl : ∀ x ∈ xs, (lst x).length < (lst s).length := fun x hx => sArgs_len (by rw [hsa]; exact List.mem_map.2 ⟨x, hx, rfl⟩)
          have HXL := Lib.hid hxl
          have hxn : xs.length ≤ 200 := by
            have h9 := sArgs_count (lst s)
            rw [hsa] at h9
            simp only [List.length_map] at h9
            omega
          clear hsa hxl hb1 hb2
          cases ok with
          | false =>
            go_wp2
            go_ret
            rw [HK.out]
            exact ⟨rfl, hb12⟩
          | true =>
            cases hbn : bigName (lst nm)
            · go_wp2_with (go_at_call 45; refine (l01Name_any nm (by omega) _).mono ?_; rintro e w' ⟨rfl, rfl⟩)
              go_ret
              rw [HK.out]
              simp only [hbn]
              exact ⟨rfl, hb12⟩
            · simp only [hbn, Bool.and_self, if_true] at HK
              obtain ⟨av, cv, rfl⟩ := owns_shape hown
              go_wp2_with (go_at_call 45; refine (l01Name_any nm (by omega) _).mono ?_; rintro e w' ⟨rfl, rfl⟩)
              go_loopw [9] (fun v wr => ArgsGone f w xs w1.heap.size (.slice av xs.length cv) v wr) (fun v _ => (xs.length - (intOf v).toNat))
              case atStart => exact ⟨0, rfl, Nat.zero_le _, fun j h a => by omega, hown, hb12⟩
              case round =>
                obtain ⟨k, rfl, hk, hall, hownr, hbr⟩ := hrel
                have HALL := Lib.hid hall
                clear hall
                by_cases hlt : k < xs.length
                · obtain ⟨g, cap, hgv, _, _⟩ := hownr.form (by omega)
                  simp only [Value.slice.injEq, true_and] at hgv
                  obtain ⟨rfl, rfl⟩ := hgv
                  have hx : wr.cell? ⟨g, k, none⟩ = some (.string xs[k]) := by
                    rw [hownr.cellAt k (by omega)]
                    simp [strCells, hlt]
                  have hxs := HXL.out xs[k] (List.getElem_mem hlt)
                  rw [lst_len, lst_len] at hxs
                  have hkl : (k : Int) < (xs.length : Int) := by omega
                  have Z0 := Lib.hid (fun (h : sKind f (lst xs[k]) = 0) => not_all_kinds hlt h)
                  have Z1 : ∀ (w3 : World), sKind f (lst xs[k]) ≠ 0 → Below wr.heap.size wr w3 → ArgsGone f w xs w1.heap.size (.slice (some ⟨g, 0, none⟩) xs.length cv) (.int .i64 ((k : Int) + 1)) w3 := fun w3 hz hb3 =>
                    ⟨k + 1, by go_num, by omega, fun j h a => by
                      by_cases hj : j < k
                      · exact HALL.out j h hj
                      · obtain rfl : j = k := by omega
                        exact hz, by
                        have hg3 : wr.grownBy w3 none := ⟨hb3.os, hb3.tape, hb3.output, hb3.size, fun k hk _ => hb3.block k hk⟩
                        exact hownr.kept hg3 (.inr (by simp [Value.ownBlock])), hbr.trans (hb3.mono hbr.size)⟩
                  have HZ1 := Lib.hid Z1
                  clear Z1
                  generalize xs[k] = x at *
                  go_wp2_with fail
                  refine (IH.out x wr (by omega) (by omega)).mono ?_
                  rintro e w3 ⟨rfl, hb3⟩
                  by_cases hz : sKind f (lst x) = 0
                  · have HF := Lib.hid (Z0.out hz)
                    rw [HF.out] at HK
                    have hb := hbr.trans (hb3.mono hbr.size)
                    rw [hz]
                    clear hz HF Z0 HZ1 hb3 hbr hownr
                    go_wp2
                    go_ret
                    rw [HK.out]
                    exact ⟨rfl, hb⟩
                  · have R := HZ1.out w3 hz hb3
                    have HR := Lib.hid R
                    have hzb : (sKind f (lst x) == 0) = false := beq_eq_false_iff_ne.2 hz
                    clear R hz Z0 HZ1 hb3 hbr hownr
                    generalize sKind f (lst x) = y at *
                    go_wp2
                    go_roundw
                    case rel => exact HR.out
                    case measure => simp [intOf]; omega
                · have hT := all_kinds (f := f) (xs := xs) (fun j h => HALL.out j h (by omega))
                  rw [hT] at HK
                  have hlt2 : decide ((k : Int) < (xs.length : Int)) = false := decide_eq_false (by omega)
                  clear hT hownr
                  go_wp2
                  go_ret
                  rw [HK.out]
                  exact ⟨rfl, hbr⟩
    · have HK : sKind (f + 1) (lst s) = 0 := by rw [sKind, if_pos (.inr (by omega))]
      rw [HK]
      have hgt : decide ((200 : Int) < (s.size : Int)) = true := decide_eq_true (by omega)
      have hgt' : decide (200 < s.size) = true := decide_eq_true (by omega)
      clear HK
      go_enter Tryz.func35, Tryz.ntmps35
      go_wp2
      go_ret
      exact ⟨rfl, Below.refl _ _⟩

theorem kind_said (f : Nat) : KindSaid f := by
  induction f with
  | zero => intro s w hf; omega
  | succ f ih => exact specKind_step f ih

/-- spec.TermKind answers as impl.TermKind. -/
theorem specTermKind (s : ByteArray) (hlim : s.size ≤ 140737488351232) (w : World) :
    Calls Tryz.prog 35 #[.string s] w fun e w' => e = .returned (.int .i64 (iKind (lst s))) ∧ Below w.heap.size w w' := by
  have h := kind_said (s.size + 1) s w (by omega) hlim
  rw [sKind_eq _ _ (by rw [lst_len]; omega)] at h
  exact h

end Go.Proofs.YtcohjmbbanjjeaaGreatDoor
