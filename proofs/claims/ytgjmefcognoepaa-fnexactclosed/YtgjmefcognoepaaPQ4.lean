/-
  THE WALK of spec.Closed.
-/
import Derived.Test.YtgjmefcognoepaaPQ3
import Derived.Deep.DeepCutAuto
namespace Go.Proofs.Ytgjmefcognoepaa.Pr
open Go Go.RowKit Go.Maps Go.WideMaps

def ClsPost (l : List Gr) (w : World) (e : Ending) (w' : World) : Prop := ∃ (a : Option Addr) (c : Nat) (xs : List (Gr × Value)), e = .returned (.tuple #[.slice a (closeAns l).1.length c, .bool (closeAns l).2]) ∧ OwnGS w.heap.size w' (.slice a (closeAns l).1.length c) xs ∧ xs.map Prod.fst = (closeAns l).1 ∧ Below w.heap.size w w'
theorem ClsPost.none {l : List Gr} {w w' : World} {a : Option Addr} {c : Nat} (h : closeAns l = ([], false)) (hO : OwnGS w.heap.size w' (.slice a 0 c) []) (hb : Below w.heap.size w w') : ClsPost l w (.returned (.tuple #[.slice a 0 c, .bool false])) w' := ⟨a, c, [], by rw [h]; rfl, by rw [h]; exact hO, by rw [h]; rfl, hb⟩
theorem ClsPost.some {l r : List Gr} {w w' : World} {a : Option Addr} {c : Nat} {xs : List (Gr × Value)} (h : closeAns l = (r, true)) (hO : OwnGS w.heap.size w' (.slice a r.length c) xs) (hx : xs.map Prod.fst = r) (hb : Below w.heap.size w w') : ClsPost l w (.returned (.tuple #[.slice a r.length c, .bool true])) w' := ⟨a, c, xs, by rw [h], by rw [h]; exact hO, by rw [h]; exact hx, hb⟩
theorem nil_ownGS (w W : World) (B : Nat) (hB : B ≤ w.heap.size) (hW : W.heap[w.heap.size]? = some (.cells #[] 38 (0, 0))) : OwnGS B W (.slice (some ⟨w.heap.size, 0, none⟩) 0 0) [] :=
  ⟨⟨rfl, .inr ⟨w.heap.size, 0, #[], rfl, hB, hW, Nat.le_refl _, by unfold maxLen; omega, rfl, rfl⟩⟩, fun p h => by simp at h, List.Pairwise.nil, fun p h => by simp at h⟩
theorem gs_at {B : Nat} {w : World} {a : Option Addr} {c : Nat} {xs : List (Gr × Value)} {r : List Gr} (hO : OwnGS B w (.slice a r.length c) xs) (hx : xs.map Prod.fst = r) {i : Nat} (hi : i < r.length) :
    ∃ g ar cr, a = some ⟨g, 0, none⟩ ∧ B ≤ g ∧ g < w.heap.size ∧ w.cell? ⟨g, i * 3, none⟩ = some (.int .i64 r[i].f) ∧ w.cell? ⟨g, i * 3 + 1, none⟩ = some (.int .i64 r[i].t) ∧ w.cell? ⟨g, i * 3 + 2, none⟩ = some (.slice ar r[i].rs.length cr) ∧
      FGr (Seg B w.heap.size) w [.int .i64 r[i].f, .int .i64 r[i].t, .slice ar r[i].rs.length cr] r[i] := by
  subst hx
  rw [List.length_map] at hi
  obtain ⟨g, ar, cr, h1, h2, h3, _, h5, h6, h7, h8⟩ := hO.at hi
  simp only [List.getElem_map]
  exact ⟨g, ar, cr, h1, h2, h3, h5, h6, h7, h8⟩

/-- The list so far, in a row of its own. -/
def Lst (w0 : World) (r : List Gr) (v : Value) (wr : World) : Prop := ∃ (a : Option Addr) (c : Nat) (xs : List (Gr × Value)), v = .slice a r.length c ∧ xs.map Prod.fst = r ∧ OwnGS w0.heap.size wr (.slice a r.length c) xs ∧ Below w0.heap.size w0 wr
theorem Lst.ofAdd {w0 : World} {r : List Gr} {g : Gr} {e : Ending} {w' : World} (h : AddPost w0.heap.size w0 r g e w') : ∃ v, e = .returned v ∧ Lst w0 (addG r g) v w' := by
  obtain ⟨a, c, xs, rfl, h1, h2, h3⟩ := h
  have hl : xs.length = (addG r g).length := by rw [← h2, List.length_map]
  rw [hl] at h1 ⊢
  exact ⟨_, rfl, a, c, xs, rfl, h2, h1, h3⟩
def SC1 (w0 : World) (l : List Gr) (v3 v4 : Value) (wr : World) : Prop := ∃ (i : Nat) (r : List Gr), v4 = .int .i64 (i : Int) ∧ i ≤ l.length ∧ r = startG (l.take i) ∧ RightL (l.take i) ∧ r.length ≤ 121 ∧ Lst w0 r v3 wr
def SC2 (w0 : World) (l : List Gr) (v3 : Value) (wr : World) : Prop := ∃ r : List Gr, r.length ≤ 240 ∧ ((RightL l ∧ ∃ k, r = passGN l k) ∨ (120 < r.length ∧ closeAns l = ([], false))) ∧ Lst w0 r v3 wr
def SC3 (w0 : World) (N : List Gr) (v3 v6 : Value) (wr : World) : Prop := ∃ (i : Nat) (r : List Gr), v6 = .int .i64 (i : Int) ∧ i ≤ N.length ∧ r = (pairsTo N i 0).foldl addC N ∧ r.length ≤ 240 ∧ Lst w0 r v3 wr
def SC4 (w0 : World) (N : List Gr) (i : Nat) (v3 v7 : Value) (wr : World) : Prop := ∃ (k : Nat) (r : List Gr), v7 = .int .i64 (k : Int) ∧ k ≤ N.length ∧ r = (pairsTo N i k).foldl addC N ∧ r.length ≤ 120 + k ∧ Lst w0 r v3 wr
def lenOf : Value → Nat
  | .slice _ n _ => n
  | _ => 0
theorem addG_len (r : List Gr) (g : Gr) : (addG r g).length ≤ r.length + 1 := by
  unfold addG
  split
  · omega
  · simp
theorem addC_len (r : List Gr) (p : Gr × Gr) : (addC r p).length ≤ r.length + 1 := by
  unfold addC
  split
  · exact addG_len _ _
  · omega
theorem closeAns_long {l : List Gr} {k : Nat} (h : 120 < (passGN l k).length) : closeAns l = ([], false) := closeAns_no fun ⟨_, r, hf, hr⟩ => by
  have := hf.longest k
  omega
theorem right_len {l : List Gr} (h : RightL l) : ∀ g ∈ l, g.rs.length ≤ 1048576 := fun g hg => by have := (h g hg).few; omega
theorem fold_at {N : List Gr} {ps : List (Gr × Gr)} {r : List Gr} (hr : r = ps.foldl addC N) {i : Nat} (hi : i < N.length) : ∃ h : i < r.length, r[i] = N[i] := by
  obtain ⟨s, hs⟩ := foldl_grow addC_grow ps N
  rw [hs] at hr
  subst hr
  exact ⟨by rw [List.length_append]; omega, List.getElem_append_left hi⟩

/-- Behind Compose: its answer has been laid. -/
def RC (wr : World) (r : Gr) (ok : Bool) (v9 v10 : Value) (wx : World) : Prop := ∃ (G : Nat) (av : Option Addr) (cv : Nat), v9 = .pointer (some ⟨G, 0, none⟩) ∧ v10 = .bool ok ∧ wx.heap[G]? = some (.cells #[.int .i64 r.f, .int .i64 r.t, .slice av r.rs.length cv] 38 (0, 0)) ∧ wx.ownsRow wr.heap.size 59 3 (.slice av r.rs.length cv) r.rs.length (arcCells r.rs) ∧ Below wr.heap.size wr wx
abbrev zg3 : Array Value := #[.int .i64 0, .int .i64 0, .slice none 0 0]
/-- Laid behind the call. -/
theorem RC.late {wr W : World} {r : Gr} {ok : Bool} {av : Option Addr} {cv : Nat} (hb : Below wr.heap.size wr W) (ho : W.ownsRow wr.heap.size 59 3 (.slice av r.rs.length cv) r.rs.length (arcCells r.rs)) :
    RC wr r ok (.pointer (some ⟨W.heap.size, 0, none⟩)) (.bool ok) (W.alloc (.cells #[.int .i64 r.f, .int .i64 r.t, .slice av r.rs.length cv] 38)) :=
  ⟨_, av, cv, rfl, rfl, heap_alloc_new W _, ho.alloc _, below_alloc hb _⟩
/-- Laid ahead of the call. -/
theorem RC.early {wr W : World} {r : Gr} {ok : Bool} {av : Option Addr} {cv X lo : Nat} (kx : W.heap[X]? = some (.cells zg3 38 (0, 0))) (hb : Below wr.heap.size wr W) (hX : wr.heap.size ≤ X) (hlo : X < lo) (ho : W.ownsRow lo 59 3 (.slice av r.rs.length cv) r.rs.length (arcCells r.rs)) :
    RC wr r ok (.pointer (some ⟨X, 0, none⟩)) (.bool ok) (((W.setCell ⟨X, 0, none⟩ (.int .i64 r.f)).setCell ⟨X, 1, none⟩ (.int .i64 r.t)).setCell ⟨X, 2, none⟩ (.slice av r.rs.length cv)) := by
  obtain ⟨h1, h2, h3⟩ := set3 kx (.int .i64 r.f) (.int .i64 r.t) (.slice av r.rs.length cv) hb hX
  exact ⟨_, av, cv, rfl, rfl, h1, row_move (owns_mono (by omega) ho) fun g hg => h3 g (by have := (own_lt3 ho hg).1; omega), h2⟩

set_option maxRecDepth 100000 in
set_option maxHeartbeats 8000000 in
theorem specClosed_any (l : List Gr) (al : Option Addr) (cl : Nat) (S : Nat → Prop) (w : World) (hrow : RowIn FGr 3 S w al l) (hS : ∀ b, S b → b < w.heap.size) (hn : l.length ≤ 1048576) (hl : ∀ g ∈ l, g.rs.length ≤ 1048576) :
    Calls Try.prog 5 #[.slice al l.length cl] w (ClsPost l w) := by
  have HROW := Lib.hid (fun (W : World) (h : Below w.heap.size w W) => RowIn.kept FGr_keeps hrow (Same.below hS h))
  have HS := Lib.hid (fun (W : World) (h : Below w.heap.size w W) (b : Nat) (hb : S b) => Nat.lt_of_lt_of_le (hS b hb) h.size)
  have HL := Lib.hid hl
  have hbz2 : Below w.heap.size w (w.alloc (.cells #[] 38)) := (Below.refl _ _).alloc (Nat.le_refl _) _
  have HST := Lib.hid (show SC1 w l (.slice (some ⟨w.heap.size, 0, none⟩) 0 0) (.int .i64 0) (w.alloc (.cells #[] 38)) from ⟨0, [], rfl, Nat.zero_le _, rfl, fun g hg => by simp at hg, by simp, _, _, [], rfl, rfl, nil_ownGS w _ _ (Nat.le_refl _) (heap_alloc_new w _), hbz2⟩)
  have HNO := Lib.hid (fun (W : World) (hW : Below w.heap.size w W) (hno : closeAns l = ([], false)) => (ClsPost.none hno (nil_ownGS W (W.alloc (.cells #[] 38)) _ hW.size (heap_alloc_new W _)) (hW.alloc hW.size _) : ClsPost l w (.returned (.tuple #[.slice (some ⟨W.heap.size, 0, none⟩) 0 0, .bool false])) (W.alloc (.cells #[] 38))))
  clear hrow hS hl hbz2
  go_enter Try.func5, Try.ntmps5
  go_wp2
  go_loopw [4, 5] (fun v3 v4 wr => SC1 w l v3 v4 wr) (fun _ v4 _ => (l.length - (intOf v4).toNat))
  case atStart => exact HST.out
  case round =>
    obtain ⟨i, r, rfl, hi, hr, hrt, hr121, a, c, xs, rfl, hx, hO, hb⟩ := hrel
    clear HST
    by_cases hlt : i < l.length
    · have hd : decide ((i : Int) < (l.length : Int)) = true := decide_eq_true (by omega)
      by_cases hle : r.length ≤ 120
      · have hd2 : decide ((r.length : Int) ≤ 120) = true := decide_eq_true (by omega)
        obtain ⟨b, off, vs, rfl, hSb, hvl, hcc, hFF⟩ := HROW.out wr hb i hlt
        have hF0 := hFF
        obtain ⟨ars, crs, rfl, hra⟩ := hFF
        have x0 : wr.cell? ⟨b, off + i * 3, none⟩ = some (.int .i64 l[i].f) := hcc 0 (by simp)
        have x1 : wr.cell? ⟨b, off + i * 3 + 1, none⟩ = some (.int .i64 l[i].t) := hcc 1 (by simp)
        have x2 : wr.cell? ⟨b, off + i * 3 + 2, none⟩ = some (.slice ars l[i].rs.length crs) := hcc 2 (by simp)
        have hbl : b < wr.heap.size := HS.out wr hb b hSb
        have hgl := HL.out _ (List.getElem_mem hlt)
        have htk : l.take (i + 1) = l.take i ++ [l[i]] := List.take_succ_eq_append_getElem hlt
        have hst : startG (l.take (i + 1)) = addG r l[i] := by rw [htk, hr]; unfold startG; rw [List.foldl_append]; rfl
        have HRG := Lib.hid (specRight_any l[i] _ S wr hF0 (HS.out wr hb) hgl)
        have HMEM := Lib.hid (List.getElem_mem hlt)
        have HAD := Lib.hid (fun (W : World) (hW : Below wr.heap.size wr W) => specAdd_any w.heap.size w a c xs l[i] _ S W (by rw [show xs.length = r.length by rw [← hx, List.length_map]]; exact hO.kept hW) (below_step hb hW) (below_step hb hW).size (FGr_keeps.1 _ _ _ _ _ hF0 (Same.below (HS.out wr hb) hW)) (HS.out W (below_step hb hW)) hgl (by rw [show xs.length = r.length by rw [← hx, List.length_map]]; omega)
          (fun p hp => right_len (l := r) (by rw [hr]; exact start_right hrt) p.1 (by rw [← hx]; exact List.mem_map.2 ⟨p, hp, rfl⟩)))
        rw [show xs.length = r.length by rw [← hx, List.length_map], hx] at HAD
        have HRT := Lib.hid hrt
        have HTK := Lib.hid htk
        have HSTT := Lib.hid hst
        have HBB := Lib.hid hb
        have z0 : (0 : Int) ≤ (i : Int) := by omega
        have z1 : (i : Int) < (l.length : Int) := by omega
        clear hr hrt hO hb hcc hF0 hra hvl hx htk hst hSb
        obtain ⟨g, hg⟩ : ∃ g, l[i] = g := ⟨_, rfl⟩
        rw [hg] at x0 x1 x2 hgl HRG HMEM HAD HTK HSTT
        clear hg
        go_wp2_with fail
        refine HRG.out.mono ?_
        rintro e w1 ⟨⟨r1, rfl, hr1⟩, hb1⟩
        cases r1 with
        | false =>
          have HP := Lib.hid (HNO.out w1 (below_step HBB.out hb1) (closeAns_wrong fun h => by have := hr1.2 (h _ HMEM.out); cases this))
          clear hr1 hb1 HRG HAD x0 x1 x2
          go_wp2
          go_ret2
          exact HP.out
        | true =>
          have HA := Lib.hid (HAD.out w1 hb1)
          have HRI := Lib.hid (hr1.1 rfl)
          have y0 := (hb1.cell (p := ⟨b, off + i * 3, none⟩) hbl).trans x0
          have y1 := (hb1.cell (p := ⟨b, off + i * 3 + 1, none⟩) hbl).trans x1
          have y2 := (hb1.cell (p := ⟨b, off + i * 3 + 2, none⟩) hbl).trans x2
          clear hr1 hb1 HRG HAD x0 x1 x2
          go_wp2_with fail
          refine HA.out.mono ?_
          rintro e w2 hAP
          obtain ⟨v, rfl, hLst⟩ := Lst.ofAdd hAP
          have HR := Lib.hid (show SC1 w l v (.int .i64 ((i : Int) + 1)) w2 from ⟨i + 1, addG r g, by go_num, by omega, HSTT.out.symm, by
            rw [HTK.out]
            intro x hx
            rcases List.mem_append.1 hx with hx | hx
            · exact HRT.out x hx
            · rw [List.mem_singleton.1 hx]; exact HRI.out, by have := addG_len r g; omega, hLst⟩)
          clear hAP hLst HA y0 y1 y2
          go_wp2
          go_roundw
          case rel => exact HR.out
          case measure => (simp [intOf] <;> omega)
      · have hd2 : decide ((r.length : Int) ≤ 120) = false := decide_eq_false (by omega)
        have hno : closeAns l = ([], false) := closeAns_start (a := l.take i) (b := l.drop i) (by rw [List.take_append_drop]) (by rw [← hr]; omega)
        have HP := Lib.hid (HNO.out wr hb hno)
        clear hr hrt hO hx hb hno
        go_wp2
        go_loopw [4] (fun v3 w' => v3 = .slice a r.length c ∧ w' = wr) (fun _ _ => 0)
        case atStart => exact ⟨rfl, rfl⟩
        case round =>
          obtain ⟨rfl, rfl⟩ := hrel
          go_wp2
          go_ret2
          exact HP.out
    · obtain rfl : i = l.length := by omega
      have hd : decide ((l.length : Int) < (l.length : Int)) = false := by simp
      rw [List.take_length] at hr hrt
      have HST2 := Lib.hid (show SC2 w l (.slice a r.length c) wr from ⟨r, by omega, .inl ⟨hrt, 0, hr⟩, a, c, xs, rfl, hx, hO, hb⟩)
      clear hr hrt hO hx hb
      go_wp2
      go_loopw [4] (fun v3 wr => SC2 w l v3 wr) (fun v3 _ => 250 - lenOf v3)
      case atStart => exact HST2.out
      case round =>
        obtain ⟨r, hr240, hor, a, c, xs, rfl, hx, hO, hb⟩ := hrel
        clear HST2
        by_cases hle : r.length ≤ 120
        · have hd2 : decide ((r.length : Int) ≤ 120) = true := decide_eq_true (by omega)
          obtain ⟨hR, k0, hk0⟩ : RightL l ∧ ∃ k, r = passGN l k := by
            rcases hor with h | ⟨h, _⟩
            · exact h
            · omega
          have HRL := Lib.hid hR
          have HK0 := Lib.hid hk0
          have HRN := Lib.hid (show RightL r by rw [hk0]; exact passGN_right hR k0)
          have HST3 := Lib.hid (show SC3 w r (.slice a r.length c) (.int .i64 0) wr from ⟨0, r, rfl, Nat.zero_le _, by rw [pairsTo_zero]; rfl, hr240, a, c, xs, rfl, hx, hO, hb⟩)
          clear hR hk0 hx hO hb hor
          obtain ⟨N, hN⟩ : ∃ N, r = N := ⟨_, rfl⟩
          rw [hN] at HK0 HRN HST3 hd2 hle hr240 ⊢
          clear hN r
          go_wp2
          go_loopw [4, 7] (fun v3 v6 wr => SC3 w N v3 v6 wr) (fun _ v6 _ => (N.length - (intOf v6).toNat))
          case atStart => exact HST3.out
          case round =>
            obtain ⟨i, r, rfl, hi, hr, hr2, a, c, xs, rfl, hx, hO, hb⟩ := hrel
            clear HST3
            by_cases hlt : i < N.length
            · have hd3 : decide ((i : Int) < (N.length : Int)) = true := decide_eq_true (by omega)
              by_cases hl2 : r.length ≤ 120
              · have hd4 : decide ((r.length : Int) ≤ 120) = true := decide_eq_true (by omega)
                have HST4 := Lib.hid (show SC4 w N i (.slice a r.length c) (.int .i64 0) wr from ⟨0, r, rfl, Nat.zero_le _, hr, hl2, a, c, xs, rfl, hx, hO, hb⟩)
                clear hr hx hO hb
                go_wp2
                go_loopw [4, 8] (fun v3 v7 wr => SC4 w N i v3 v7 wr) (fun _ v7 _ => (N.length - (intOf v7).toNat))
                case atStart => exact HST4.out
                case round =>
                  obtain ⟨k, r, rfl, hk, hr, hr3, a, c, xs, rfl, hx, hO, hb⟩ := hrel
                  clear HST4
                  by_cases hkl : k < N.length
                  · have hd5 : decide ((k : Int) < (N.length : Int)) = true := decide_eq_true (by omega)
                    obtain ⟨hir, eir⟩ := fold_at hr hlt
                    obtain ⟨hkr, ekr⟩ := fold_at hr hkl
                    obtain ⟨gb, ari, cri, rfl, hg1, hg2, ci0, ci1, ci2, hFi⟩ := gs_at hO hx hir
                    obtain ⟨gb', ark, crk, hgb, _, _, ck0, ck1, ck2, hFk⟩ := gs_at hO hx hkr
                    cases hgb
                    rw [eir] at ci0 ci1 ci2 hFi
                    rw [ekr] at ck0 ck1 ck2 hFk
                    have hri := HRN.out _ (List.getElem_mem hlt)
                    have hrk := HRN.out _ (List.getElem_mem hkl)
                    have hst : (pairsTo N i (k + 1)).foldl addC N = addC r (N[i], N[k]) := by rw [pairsTo_step hlt hkl, List.foldl_append, ← hr]; rfl
                    obtain ⟨gi, hgi⟩ : ∃ g, N[i] = g := ⟨_, rfl⟩
                    obtain ⟨gk, hgk⟩ : ∃ g, N[k] = g := ⟨_, rfl⟩
                    rw [hgi] at ci0 ci1 ci2 hFi hri hst
                    rw [hgk] at ck0 ck1 ck2 hFk hrk hst
                    clear hgi hgk eir ekr
                    have HCM := Lib.hid (fun (W : World) (hW : Below wr.heap.size wr W) => specCompose_any gi gk _ _ _ W (FGr_keeps.1 _ _ _ _ _ hFi (Same.below (fun b h => h.2) hW)) (FGr_keeps.1 _ _ _ _ _ hFk (Same.below (fun b h => h.2) hW)) (fun b h => Nat.lt_of_lt_of_le h.2 hW.size) (by have := hri.few; omega) (by have := hrk.few; omega))
                    have HPI := Lib.hid (show ∀ W : World, Below wr.heap.size wr W → (fun w' => w'.cell? ⟨gb, i * 3, none⟩ = some (.int .i64 gi.f) ∧ w'.cell? ⟨gb, i * 3 + 1, none⟩ = some (.int .i64 gi.t) ∧ w'.cell? ⟨gb, i * 3 + 2, none⟩ = some (.slice ari gi.rs.length cri) ∧ w'.cell? ⟨gb, k * 3, none⟩ = some (.int .i64 gk.f) ∧ w'.cell? ⟨gb, k * 3 + 1, none⟩ = some (.int .i64 gk.t) ∧ w'.cell? ⟨gb, k * 3 + 2, none⟩ = some (.slice ark gk.rs.length crk)) W from fun W hW => ⟨(hW.cell (p := ⟨gb, i * 3, none⟩) hg2).trans ci0, (hW.cell (p := ⟨gb, i * 3 + 1, none⟩) hg2).trans ci1, (hW.cell (p := ⟨gb, i * 3 + 2, none⟩) hg2).trans ci2, (hW.cell (p := ⟨gb, k * 3, none⟩) hg2).trans ck0, (hW.cell (p := ⟨gb, k * 3 + 1, none⟩) hg2).trans ck1, (hW.cell (p := ⟨gb, k * 3 + 2, none⟩) hg2).trans ck2⟩)
                    have hCO : (gi.t = gk.f ∧ compAns gi gk = (cmpG gi gk, true)) ∨ (gi.t ≠ gk.f ∧ (compAns gi gk).2 = false) := by
                      by_cases h : gi.t = gk.f
                      · exact .inl ⟨h, compAns_ok hri hrk h⟩
                      · exact .inr ⟨h, by rw [compAns_no (fun hh => h hh.2.2)]⟩
                    have HCO := Lib.hid hCO
                    have hlen : (compAns gi gk).1.rs.length ≤ 1048576 := by
                      unfold compAns
                      split
                      · have := arcsTo_len gi.rs gk.rs 36; show (arcsTo gi.rs gk.rs 36).length ≤ _; omega
                      · simp
                    have HLE := Lib.hid hlen
                    have HAD := Lib.hid (fun (W : World) (hW : Below wr.heap.size wr W) (S' : Nat → Prop) (vs : List Value) (g : Gr) (hg : g.rs.length ≤ 1048576) (hF' : FGr S' W vs g) (hS' : ∀ b, S' b → b < W.heap.size) => specAdd_any w.heap.size w (some ⟨gb, 0, none⟩) c xs g vs S' W (by rw [show xs.length = r.length by rw [← hx, List.length_map]]; exact hO.kept hW) (below_step hb hW) (below_step hb hW).size hF' hS' hg (by rw [show xs.length = r.length by rw [← hx, List.length_map]]; omega)
                      (fun p hp => right_len (l := r) (by rw [hr]; exact foldC_right _ _ HRN.out) p.1 (by rw [← hx]; exact List.mem_map.2 ⟨p, hp, rfl⟩)))
                    rw [show xs.length = r.length by rw [← hx, List.length_map], hx] at HAD
                    have HKEEP := Lib.hid (fun (W : World) (hW : Below wr.heap.size wr W) => (⟨some ⟨gb, 0, none⟩, c, xs, rfl, hx, hO.kept hW, below_step hb hW⟩ : Lst w r (.slice (some ⟨gb, 0, none⟩) r.length c) W))
                    have HSTT := Lib.hid hst
                    have z1 : (0 : Int) ≤ (i : Int) := by omega
                    have z2 : (i : Int) < (r.length : Int) := by omega
                    have z3 : (0 : Int) ≤ (k : Int) := by omega
                    have z4 : (k : Int) < (r.length : Int) := by omega
                    clear hr hx hO hb hFi hFk hri hrk hst hCO hlen ci0 ci1 ci2 ck0 ck1 ck2
                    obtain ⟨⟨rg, ok⟩, hA⟩ : ∃ A, compAns gi gk = A := ⟨_, rfl⟩
                    have HCA := Lib.hid (show ∀ W : World, Below wr.heap.size wr W → Calls Try.prog 14 #[.agg #[.int .i64 gi.f, .int .i64 gi.t, .slice ari gi.rs.length cri], .agg #[.int .i64 gk.f, .int .i64 gk.t, .slice ark gk.rs.length crk]] W fun e w' => ∃ v, e = .returned (.tuple #[.agg #[.int .i64 rg.f, .int .i64 rg.t, v], .bool ok]) ∧ w'.ownsRow W.heap.size 59 3 v rg.rs.length (arcCells rg.rs) ∧ Below W.heap.size W w' from fun W hW => by
                      have := HCM.out W hW
                      unfold CmpPost at this
                      rw [hA] at this
                      exact this)
                    rw [hA] at HCO HLE
                    clear hA HCM
                    go_upto_region 16 with (fail)
                    go_cut [9, 10] from 51 to 71 (fun v9 v10 wx => RC wr rg ok v9 v10 wx)
                    case first =>
                      refine wp_region_held_drew (S := (fun w' => w'.cell? ⟨gb, i * 3, none⟩ = some (.int .i64 gi.f) ∧ w'.cell? ⟨gb, i * 3 + 1, none⟩ = some (.int .i64 gi.t) ∧ w'.cell? ⟨gb, i * 3 + 2, none⟩ = some (.slice ari gi.rs.length cri) ∧ w'.cell? ⟨gb, k * 3, none⟩ = some (.int .i64 gk.f) ∧ w'.cell? ⟨gb, k * 3 + 1, none⟩ = some (.int .i64 gk.t) ∧ w'.cell? ⟨gb, k * 3 + 2, none⟩ = some (.slice ark gk.rs.length crk))) (by kernel_rfl) (HPI.out _ (drewG (Below.refl _ _))) (fun hHeld => ?_)
                      have hc : Below wr.heap.size wr wr.drew := drewG (Below.refl _ _)
                      refine wpAnyH_take (i := 0) (v := ?_) rfl (by kernel_rfl) (by kernel_rfl) (by kernel_rfl) (fun _ _ _ h => h) (Or.inl ⟨by rfl, ?_⟩) (by assumption) ?_
                      rotate_left
                      · (intro w9 hSw; obtain ⟨s0, s1, s2, s3, s4, s5⟩ := hSw; go_simp; try with_reducible rfl)
                      try simp only [Act.put, List.getElem_toArray, List.getElem_cons_zero, List.setIfInBounds_toArray, List.set_cons_zero, List.set_cons_succ]
                      refine wpAnyH_take (i := 1) (v := ?_) rfl (by kernel_rfl) (by kernel_rfl) (by kernel_rfl) (fun _ _ _ h => h) (Or.inl ⟨by rfl, ?_⟩) (by assumption) ?_
                      rotate_left
                      · (intro w9 hSw; obtain ⟨s0, s1, s2, s3, s4, s5⟩ := hSw; go_simp; try with_reducible rfl)
                      try simp only [Act.put, List.getElem_toArray, List.getElem_cons_zero, List.getElem_cons_succ, List.setIfInBounds_toArray, List.set_cons_zero, List.set_cons_succ]
                      refine wpAnyH_take (i := 2) (v := ?_) rfl (by kernel_rfl) (by kernel_rfl) (by kernel_rfl) (fun _ _ _ h => h) (Or.inl ⟨by rfl, ?_⟩) (by assumption) ?_
                      rotate_left
                      · (intro w9 hSw; obtain ⟨s0, s1, s2, s3, s4, s5⟩ := hSw; go_simp; try with_reducible rfl)
                      try simp only [Act.put, List.getElem_toArray, List.getElem_cons_zero, List.getElem_cons_succ, List.setIfInBounds_toArray, List.set_cons_zero, List.set_cons_succ]
                      refine wpAnyH_take (i := 3) (v := ?_) rfl (by kernel_rfl) (by kernel_rfl) (by kernel_rfl) (fun _ _ _ h => h) (Or.inl ⟨by rfl, ?_⟩) (by assumption) ?_
                      rotate_left
                      · (intro w9 hSw; obtain ⟨s0, s1, s2, s3, s4, s5⟩ := hSw; go_simp; try with_reducible rfl)
                      try simp only [Act.put, List.getElem_toArray, List.getElem_cons_zero, List.getElem_cons_succ, List.setIfInBounds_toArray, List.set_cons_zero, List.set_cons_succ]
                      refine wpAnyH_take (i := 4) (v := ?_) rfl (by kernel_rfl) (by kernel_rfl) (by kernel_rfl) (fun _ _ _ h => h) (Or.inl ⟨by rfl, ?_⟩) (by assumption) ?_
                      rotate_left
                      · (intro w9 hSw; obtain ⟨s0, s1, s2, s3, s4, s5⟩ := hSw; go_simp; try with_reducible rfl)
                      try simp only [Act.put, List.getElem_toArray, List.getElem_cons_zero, List.getElem_cons_succ, List.setIfInBounds_toArray, List.set_cons_zero, List.set_cons_succ]
                      refine wpAnyH_take (i := 5) (v := ?_) rfl (by kernel_rfl) (by kernel_rfl) (by kernel_rfl) (fun _ _ _ h => h) (Or.inl ⟨by rfl, ?_⟩) (by assumption) ?_
                      rotate_left
                      · (intro w9 hSw; obtain ⟨s0, s1, s2, s3, s4, s5⟩ := hSw; go_simp; try with_reducible rfl)
                      try simp only [Act.put, List.getElem_toArray, List.getElem_cons_zero, List.getElem_cons_succ, List.setIfInBounds_toArray, List.set_cons_zero, List.set_cons_succ]
                      refine wpAnyH_take (i := 6) (v := ?_) rfl (by kernel_rfl) (by kernel_rfl) (by kernel_rfl) (fun _ _ _ h => h) (Or.inl ⟨by rfl, ?_⟩) (by assumption) ?_
                      rotate_left
                      · (intro w9 hSw; obtain ⟨s0, s1, s2, s3, s4, s5⟩ := hSw; go_simp; try with_reducible rfl)
                      try simp only [Act.put, List.getElem_toArray, List.getElem_cons_zero, List.getElem_cons_succ, List.setIfInBounds_toArray, List.set_cons_zero, List.set_cons_succ]
                      refine wpAnyH_take (i := 7) (v := ?_) rfl (by kernel_rfl) (by kernel_rfl) (by kernel_rfl) (fun _ _ _ h => h) (Or.inl ⟨by rfl, ?_⟩) (by assumption) ?_
                      rotate_left
                      · (intro w9 hSw; obtain ⟨s0, s1, s2, s3, s4, s5⟩ := hSw; go_simp; try with_reducible rfl)
                      try simp only [Act.put, List.getElem_toArray, List.getElem_cons_zero, List.getElem_cons_succ, List.setIfInBounds_toArray, List.set_cons_zero, List.set_cons_succ]
                      refine wpAnyH_ready (rs := [8, 12]) (by kernel_rfl) (by simp) ?_
                      refine AllReadyH.cons rfl (fun K hK => ?_) (AllReadyH.cons rfl (fun K hK => ?_) AllReadyH.nil)
                      · go_simp
                        refine (HCA.out _ hc).mono ?_
                        rintro e w5 ⟨v5, rfl, ho5, hb5⟩
                        obtain ⟨av, cv, rfl⟩ := owns_shape ho5
                        have hcn := below_step hc hb5
                        have HO5 := Lib.hid (owns_mono hc.size ho5)
                        clear hc hb5 ho5
                        go_wp2_with fail
                        refine hK.out _ _ (HPI.out _ hcn) (fun _ => ?_)
                        clear hK K
                        try simp only [Act.put, List.getElem_toArray, List.getElem_cons_zero, List.getElem_cons_succ, List.setIfInBounds_toArray, List.set_cons_zero, List.set_cons_succ]
                        refine wpAnyH_take (i := 9) (v := ?_) rfl (by kernel_rfl) (by kernel_rfl) (by kernel_rfl) (fun _ _ _ h => h) (Or.inl ⟨by rfl, ?_⟩) (by assumption) ?_
                        rotate_left
                        · (intro w9 hSw; obtain ⟨s0, s1, s2, s3, s4, s5⟩ := hSw; go_simp; try with_reducible rfl)
                        try simp only [Act.put, List.getElem_toArray, List.getElem_cons_zero, List.getElem_cons_succ, List.setIfInBounds_toArray, List.set_cons_zero, List.set_cons_succ]
                        refine wpAnyH_take (i := 10) (v := ?_) rfl (by kernel_rfl) (by kernel_rfl) (by kernel_rfl) (fun _ _ _ h => h) (Or.inl ⟨by rfl, ?_⟩) (by assumption) ?_
                        rotate_left
                        · (intro w9 hSw; obtain ⟨s0, s1, s2, s3, s4, s5⟩ := hSw; go_simp; try with_reducible rfl)
                        try simp only [Act.put, List.getElem_toArray, List.getElem_cons_zero, List.getElem_cons_succ, List.setIfInBounds_toArray, List.set_cons_zero, List.set_cons_succ]
                        refine wpAnyH_take (i := 11) (v := ?_) rfl (by kernel_rfl) (by kernel_rfl) (by kernel_rfl) (fun _ _ _ h => h) (Or.inl ⟨by rfl, ?_⟩) (by assumption) ?_
                        rotate_left
                        · (intro w9 hSw; obtain ⟨s0, s1, s2, s3, s4, s5⟩ := hSw; go_simp; try with_reducible rfl)
                        try simp only [Act.put, List.getElem_toArray, List.getElem_cons_zero, List.getElem_cons_succ, List.setIfInBounds_toArray, List.set_cons_zero, List.set_cons_succ]
                        refine wpAnyH_ready (rs := [12]) (by kernel_rfl) (by simp) ?_
                        refine AllReadyH.cons rfl (fun K hK => ?_) AllReadyH.nil
                        go_simp
                        have hcm := below_alloc hcn (.cells zg3 38)
                        refine hK.out _ _ (HPI.out _ hcm) (fun _ => ?_)
                        clear hK K
                        try simp only [Act.put, List.getElem_toArray, List.getElem_cons_zero, List.getElem_cons_succ, List.setIfInBounds_toArray, List.set_cons_zero, List.set_cons_succ]
                        have kx := heap_alloc_new w5 (.cells zg3 38)
                        have ho := HO5.out.alloc (.cells zg3 38)
                        have HRC := Lib.hid (RC.late (ok := ok) hcn HO5.out)
                        refine wpAnyH_ready (rs := [13]) (by kernel_rfl) (by simp) ?_
                        refine AllReadyH.cons rfl (fun K hK => ?_) AllReadyH.nil
                        clear kx ho hcm
                        go_simp
                        refine hK.out _ _ (HPI.out _ (by obtain ⟨_, _, _, _, _, _, _, h⟩ := HRC.out; exact h)) (fun _ => ?_)
                        clear hK K
                        try simp only [Act.put, List.getElem_toArray, List.getElem_cons_zero, List.getElem_cons_succ, List.setIfInBounds_toArray, List.set_cons_zero, List.set_cons_succ]
                        refine wpAnyH_take (i := 14) (v := ?_) rfl (by kernel_rfl) (by kernel_rfl) (by kernel_rfl) (fun _ _ _ h => h) (Or.inl ⟨by rfl, ?_⟩) (by assumption) ?_
                        rotate_left
                        · (intro w9 hSw; obtain ⟨s0, s1, s2, s3, s4, s5⟩ := hSw; go_simp; try with_reducible rfl)
                        try simp only [Act.put, List.getElem_toArray, List.getElem_cons_zero, List.getElem_cons_succ, List.setIfInBounds_toArray, List.set_cons_zero, List.set_cons_succ]
                        refine wpAnyH_done (by kernel_rfl) ?_ _
                        go_wp2_with fail
                        go_meet
                        exact HRC.out
                      · go_simp
                        have hcn := below_alloc hc (.cells zg3 38)
                        have HX := Lib.hid (heap_alloc_new wr (.cells zg3 38))
                        refine hK.out _ _ (HPI.out _ hcn) (fun _ => ?_)
                        clear hK K
                        try simp only [Act.put, List.getElem_toArray, List.getElem_cons_zero, List.getElem_cons_succ, List.setIfInBounds_toArray, List.set_cons_zero, List.set_cons_succ]
                        refine wpAnyH_ready (rs := [8]) (by kernel_rfl) (by simp) ?_
                        refine AllReadyH.cons rfl (fun K hK => ?_) AllReadyH.nil
                        go_simp
                        refine (HCA.out _ hcn).mono ?_
                        rintro e w5 ⟨v5, rfl, ho5, hb5⟩
                        obtain ⟨av, cv, rfl⟩ := owns_shape ho5
                        have hcm := below_step hcn hb5
                        have HO5 := Lib.hid ho5
                        have KX := (hb5.block _ (lt_of_block HX.out)).trans HX.out
                        have HRC := Lib.hid (RC.early (ok := ok) KX hcm (Nat.le_refl _) (lt_of_block HX.out) HO5.out)
                        obtain ⟨d0, d1, d2, f0, f1, f2⟩ := cells3 KX
                        clear hc hcn hb5 ho5
                        go_wp2_with fail
                        refine hK.out _ _ (HPI.out _ hcm) (fun _ => ?_)
                        clear hK K
                        try simp only [Act.put, List.getElem_toArray, List.getElem_cons_zero, List.getElem_cons_succ, List.setIfInBounds_toArray, List.set_cons_zero, List.set_cons_succ]
                        refine wpAnyH_take (i := 9) (v := ?_) rfl (by kernel_rfl) (by kernel_rfl) (by kernel_rfl) (fun _ _ _ h => h) (Or.inl ⟨by rfl, ?_⟩) (by assumption) ?_
                        rotate_left
                        · (intro w9 hSw; obtain ⟨s0, s1, s2, s3, s4, s5⟩ := hSw; go_simp; try with_reducible rfl)
                        try simp only [Act.put, List.getElem_toArray, List.getElem_cons_zero, List.getElem_cons_succ, List.setIfInBounds_toArray, List.set_cons_zero, List.set_cons_succ]
                        refine wpAnyH_take (i := 10) (v := ?_) rfl (by kernel_rfl) (by kernel_rfl) (by kernel_rfl) (fun _ _ _ h => h) (Or.inl ⟨by rfl, ?_⟩) (by assumption) ?_
                        rotate_left
                        · (intro w9 hSw; obtain ⟨s0, s1, s2, s3, s4, s5⟩ := hSw; go_simp; try with_reducible rfl)
                        try simp only [Act.put, List.getElem_toArray, List.getElem_cons_zero, List.getElem_cons_succ, List.setIfInBounds_toArray, List.set_cons_zero, List.set_cons_succ]
                        refine wpAnyH_take (i := 11) (v := ?_) rfl (by kernel_rfl) (by kernel_rfl) (by kernel_rfl) (fun _ _ _ h => h) (Or.inl ⟨by rfl, ?_⟩) (by assumption) ?_
                        rotate_left
                        · (intro w9 hSw; obtain ⟨s0, s1, s2, s3, s4, s5⟩ := hSw; go_simp; try with_reducible rfl)
                        try simp only [Act.put, List.getElem_toArray, List.getElem_cons_zero, List.getElem_cons_succ, List.setIfInBounds_toArray, List.set_cons_zero, List.set_cons_succ]
                        refine wpAnyH_ready (rs := [13]) (by kernel_rfl) (by simp) ?_
                        refine AllReadyH.cons rfl (fun K hK => ?_) AllReadyH.nil
                        go_simp
                        refine hK.out _ _ (HPI.out _ (by obtain ⟨_, _, _, _, _, _, _, h⟩ := HRC.out; exact h)) (fun _ => ?_)
                        clear hK K
                        try simp only [Act.put, List.getElem_toArray, List.getElem_cons_zero, List.getElem_cons_succ, List.setIfInBounds_toArray, List.set_cons_zero, List.set_cons_succ]
                        refine wpAnyH_take (i := 14) (v := ?_) rfl (by kernel_rfl) (by kernel_rfl) (by kernel_rfl) (fun _ _ _ h => h) (Or.inl ⟨by rfl, ?_⟩) (by assumption) ?_
                        rotate_left
                        · (intro w9 hSw; obtain ⟨s0, s1, s2, s3, s4, s5⟩ := hSw; go_simp; try with_reducible rfl)
                        try simp only [Act.put, List.getElem_toArray, List.getElem_cons_zero, List.getElem_cons_succ, List.setIfInBounds_toArray, List.set_cons_zero, List.set_cons_succ]
                        refine wpAnyH_done (by kernel_rfl) ?_ _
                        go_wp2_with fail
                        go_meet
                        exact HRC.out
                    case rest =>
                      obtain ⟨G, av, cv, rfl, rfl, hG, hO, hb⟩ := hcut
                      cases hok : ok with
                      | false =>
                        have hco : gi.t ≠ gk.f := by
                          rcases HCO.out with ⟨_, h⟩ | ⟨h, _⟩
                          · have := congrArg Prod.snd h; rw [hok] at this; cases this
                          · exact h
                        have hadd : addC r (gi, gk) = r := by unfold addC; rw [if_neg hco]
                        have HR := Lib.hid (show SC4 w N i (.slice (some ⟨gb, 0, none⟩) r.length c) (.int .i64 ((k : Int) + 1)) wc from ⟨k + 1, r, by go_num, by omega, by rw [HSTT.out, hadd], by omega, HKEEP.out wc hb⟩)
                        clear hG hO hb hco hadd hok HAD HKEEP HCO
                        go_wp2
                        go_roundw
                        case rel => exact HR.out
                        case measure => (simp [intOf] <;> omega)
                      | true =>
                        have hrg : gi.t = gk.f ∧ rg = cmpG gi gk := by
                          rcases HCO.out with ⟨h, h2⟩ | ⟨_, h⟩
                          · exact ⟨h, congrArg Prod.fst h2⟩
                          · rw [hok] at h; cases h
                        have hadd : addC r (gi, gk) = addG r rg := by unfold addC; rw [if_pos hrg.1, hrg.2]
                        obtain ⟨g0, g1, g2, -, -, -⟩ := cells3 hG
                        have HA := Lib.hid (HAD.out wc hb (Seg wr.heap.size wc.heap.size) [.int .i64 rg.f, .int .i64 rg.t, .slice av rg.rs.length cv] rg HLE.out ⟨av, cv, rfl, own_arcs hO⟩ (fun b h => h.2))
                        clear hG hO hb hok HAD HKEEP HCO hrg
                        have HADD := Lib.hid hadd
                        clear hadd
                        go_wp2_with fail
                        refine HA.out.mono ?_
                        rintro e w6 hAP
                        obtain ⟨v, rfl, hLst⟩ := Lst.ofAdd hAP
                        have HR := Lib.hid (show SC4 w N i v (.int .i64 ((k : Int) + 1)) w6 from ⟨k + 1, addG r rg, by go_num, by omega, by rw [HSTT.out, HADD.out], by have := addG_len r rg; omega, hLst⟩)
                        clear hAP hLst HA g0 g1 g2
                        go_wp2
                        go_roundw
                        case rel => exact HR.out
                        case measure => (simp [intOf] <;> omega)
                  · obtain rfl : k = N.length := by omega
                    have hd5 : decide ((N.length : Int) < (N.length : Int)) = false := by simp
                    have HR := Lib.hid (show SC3 w N (.slice a r.length c) (.int .i64 ((i : Int) + 1)) wr from ⟨i + 1, r, by go_num, by omega, by rw [hr, pairsTo_row hlt], by omega, a, c, xs, rfl, hx, hO, hb⟩)
                    clear hr hx hO hb
                    go_wp2
                    go_roundw
                    case rel => exact HR.out
                    case measure => (simp [intOf] <;> omega)
              · have hd4 : decide ((r.length : Int) ≤ 120) = false := decide_eq_false (by omega)
                have hno : closeAns l = ([], false) := by
                  obtain ⟨qs, hq⟩ := pairsTo_end (l := N) (Nat.le_of_lt hlt)
                  rw [HK0.out] at hq hr
                  exact closeAns_pass hq (by rw [← hr]; omega)
                have hne : ((r.length : Int) == (N.length : Int)) = false := by
                  rw [beq_eq_false_iff_ne]; omega
                have HR := Lib.hid (show SC2 w l (.slice a r.length c) wr from ⟨r, hr2, .inr ⟨by omega, hno⟩, a, c, xs, rfl, hx, hO, hb⟩)
                clear hr hx hO hb hno
                go_wp2
                go_roundw
                case rel => exact HR.out
                case measure => (simp [lenOf] <;> omega)
            · obtain rfl : i = N.length := by omega
              have hd3 : decide ((N.length : Int) < (N.length : Int)) = false := by simp
              rw [pairsTo_all] at hr
              have hr9 : r = passG N := hr
              by_cases heq : r.length = N.length
              · have hee : ((r.length : Int) == (N.length : Int)) = true := by rw [beq_iff_eq]; omega
                have hfix : passG N = N := passG_fix (by rw [← hr9]; exact heq)
                have hrN : r = N := hr9.trans hfix
                have HP := Lib.hid (ClsPost.some (closeAns_ok HRL.out ⟨k0, by rw [hrN]; exact HK0.out, by rw [hrN]; exact hfix⟩ (by omega)) hO hx hb)
                clear hr hr9 hx hO hb hfix hrN
                go_wp2
                go_ret2
                exact HP.out
              · have hee : ((r.length : Int) == (N.length : Int)) = false := by rw [beq_eq_false_iff_ne]; omega
                have hgt : N.length < r.length := by
                  obtain ⟨s, hs⟩ := passG_grow N
                  have h1 : r.length = N.length + s.length := by rw [hr9, hs, List.length_append]
                  omega
                have HR := Lib.hid (show SC2 w l (.slice a r.length c) wr from ⟨r, hr2, .inl ⟨HRL.out, k0 + 1, by rw [hr9, HK0.out]; rfl⟩, a, c, xs, rfl, hx, hO, hb⟩)
                clear hr hr9 hx hO hb
                go_wp2
                go_roundw
                case rel => exact HR.out
                case measure => (simp [lenOf] <;> omega)
        · have hd2 : decide ((r.length : Int) ≤ 120) = false := decide_eq_false (by omega)
          have hno : closeAns l = ([], false) := by
            rcases hor with ⟨_, k, rfl⟩ | ⟨_, h⟩
            · exact closeAns_long (k := k) (by omega)
            · exact h
          have HP := Lib.hid (HNO.out wr hb hno)
          clear hor hx hO hb hno
          go_wp2
          go_ret2
          exact HP.out

end Go.Proofs.Ytgjmefcognoepaa.Pr
