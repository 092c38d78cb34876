/-
  THE WALK over spec.Tokens.
-/
import Derived.Test.YtngnmfoephegmaaDoorImplTok
import Derived.Test.YtngnmfoephegmaaDoorSignSpec
import Derived.Deep.CutBlock
import Derived.Deep.CutRange
namespace Go.Proofs.YtngnmfoephegmaaDoor
open Go Go.RowKit Go.Maps Go.WideMaps

/-- What spec.Tokens answers. -/
def SpecPost (s : ByteArray) (w : World) (e : Ending) (w' : World) : Prop :=
  Below w.heap.size w w' ∧
    ((∃ (ts : List Tk) (v : Value), tokAns (lst s) = .ok ts ∧ e = .returned (.tuple #[v, .int .i64 0, .int .i64 0]) ∧ w'.ownsRow w.heap.size 29 3 v ts.length (tokCells s ts)) ∨
     (∃ (p : Nat) (c : Int) (a : Option Addr), tokAns (lst s) = .bad p c ∧ e = .returned (.tuple #[.slice a 0 0, .int .i64 (p : Int), .int .i64 c])))

def SpecRelT (s : ByteArray) (w0 : World) (v6 v7 : Value) (wr : World) : Prop :=
  ∃ (p : Nat) (ts : List Tk), v7 = .int .i64 (p : Int) ∧ TokSt s w0 p ts v6 wr

theorem tokSt_go {s : ByteArray} {w0 w w' : World} {p q : Nat} {ts : List Tk} {v : Value} (h : TokSt s w0 p ts v w) (hb : Below w.heap.size w w') (hpq : p ≤ q) (hq : q ≤ s.size) (hr : res (lst s) p = res (lst s) q) : TokSt s w0 q ts v w' :=
  ⟨hq, Nat.le_trans h.len hpq, by rw [h.res, hr], row_kept h.own hb, h.bel.trans (hb.mono h.bel.size)⟩

theorem kind_num (l : List UInt8) : iKind l = 1 ↔ (numOf l).isSome = true := by
  constructor
  · intro h
    unfold iKind at h
    split at h
    · cases h
    · rename_i t ht
      cases t with
      | num n => rw [rdAll_num.1 ht]; rfl
      | sym b => cases h
      | con a b => cases h
  · intro h
    cases hn : numOf l with
    | none => rw [hn] at h; cases h
    | some n => unfold iKind; rw [rdAll_num.2 hn]; rfl

/-- The block in which a token is made. -/
theorem tok_block (wr : World) (p : Nat) : Below wr.heap.size wr (wr.alloc (.cells #[.int .i64 0, .string ⟨#[]⟩, .int .i64 (p : Int)] 29)) ∧ wr.heap.size < (wr.alloc (.cells #[.int .i64 0, .string ⟨#[]⟩, .int .i64 (p : Int)] 29)).heap.size ∧
    (wr.alloc (.cells #[.int .i64 0, .string ⟨#[]⟩, .int .i64 (p : Int)] 29)).heap[wr.heap.size]? = some (.cells #[.int .i64 0, .string ⟨#[]⟩, .int .i64 (p : Int)] 29 (0, 0)) :=
  ⟨(Below.refl _ _).alloc (Nat.le_refl _) _, by simp, heap_alloc_new wr _⟩

theorem blk_or {c : UInt8} (h : isBlk c = true) : c.toNat = 32 ∨ c.toNat = 9 ∨ c.toNat = 10 ∨ c.toNat = 13 := by simpa [isBlk, or_assoc] using h
theorem blk_no {c : UInt8} (h : isBlk c = false) : c.toNat ≠ 32 ∧ c.toNat ≠ 9 ∧ c.toNat ≠ 10 ∧ c.toNat ≠ 13 := by simpa [isBlk, and_assoc] using h

/-- The body of the first loop of a code. -/
def firstLoop : Code → Option Code
  | .loop c => some c
  | .seq a b => match firstLoop a with
    | some c => some c
    | none => firstLoop b
  | .block _ c => firstLoop c
  | .scope c => firstLoop c
  | .cond _ a b => match firstLoop a with
    | some c => some c
    | none => firstLoop b
  | _ => none

set_option maxRecDepth 1000000 in
def SpecI (s : ByteArray) (w : World) (a : Act) (w' : World) : Prop :=
  ∃ (u : Nat → Value) (p : Nat) (ts : List Tk) (v6 v7 : Value), v7 = .int .i64 (p : Int) ∧ TokSt s w p ts v6 w' ∧ a = { tmps := #[.string s, u 1, u 2, u 3, u 4, .slice (some ⟨w.heap.size, 0, none⟩) 0 0, v6, v7, u 8, u 9, u 10, u 11, u 12, u 13, u 14, u 15, u 16, u 17, u 18, u 19, u 20, u 21, u 22, u 23, u 24, u 25, u 26, u 27, u 28, u 29, u 30, u 31, u 32, u 33, u 34, u 35, u 36, u 37, u 38, u 39, u 40, u 41, u 42, u 43, u 44, u 45, u 46, u 47, u 48, u 49, u 50, u 51, u 52, u 53, u 54, u 55, u 56, u 57, u 58, u 59, u 60, u 61, u 62, u 63, u 64, u 65, u 66, u 67, u 68, u 69, u 70, u 71, u 72, u 73, u 74, u 75, u 76, u 77, u 78, u 79, u 80, u 81, u 82, u 83, u 84, u 85, u 86, u 87, u 88, u 89, u 90, u 91, u 92, u 93, u 94, u 95, u 96, u 97, u 98, u 99, u 100, u 101, u 102, u 103, u 104, u 105, u 106, u 107, u 108, u 109, u 110, u 111, u 112, u 113, u 114, u 115, u 116, u 117, u 118, u 119, u 120, u 121, u 122, u 123, u 124, u 125, u 126, u 127, u 128, u 129, u 130, u 131, u 132, u 133, u 134, u 135, u 136, u 137, u 138, u 139, u 140, u 141, u 142, u 143, u 144, u 145, u 146, u 147, u 148, u 149, u 150, u 151, u 152, u 153, u 154, u 155, u 156, u 157, u 158, u 159, u 160, u 161, u 162, u 163, u 164, u 165, u 166, u 167, u 168, u 169, u 170, u 171, u 172, u 173, u 174, u 175, u 176, u 177, u 178, u 179, u 180, u 181, u 182, u 183, u 184, u 185, u 186, u 187, u 188, u 189, u 190], defers := [] }
def specMu (s : ByteArray) (a : Act) : Nat := s.size - (intOf (a.tmps.getD 7 undef)).toNat
set_option maxRecDepth 1000000 in
theorem SpecI_of {s : ByteArray} {w w' : World} {p : Nat} {ts : List Tk} {v6 v7 : Value} (arr : Array Value) (h : ({ tmps := arr, defers := [] } : Act) = { tmps := #[.string s, arr.getD 1 undef, arr.getD 2 undef, arr.getD 3 undef, arr.getD 4 undef, .slice (some ⟨w.heap.size, 0, none⟩) 0 0, v6, v7, arr.getD 8 undef, arr.getD 9 undef, arr.getD 10 undef, arr.getD 11 undef, arr.getD 12 undef, arr.getD 13 undef, arr.getD 14 undef, arr.getD 15 undef, arr.getD 16 undef, arr.getD 17 undef, arr.getD 18 undef, arr.getD 19 undef, arr.getD 20 undef, arr.getD 21 undef, arr.getD 22 undef, arr.getD 23 undef, arr.getD 24 undef, arr.getD 25 undef, arr.getD 26 undef, arr.getD 27 undef, arr.getD 28 undef, arr.getD 29 undef, arr.getD 30 undef, arr.getD 31 undef, arr.getD 32 undef, arr.getD 33 undef, arr.getD 34 undef, arr.getD 35 undef, arr.getD 36 undef, arr.getD 37 undef, arr.getD 38 undef, arr.getD 39 undef, arr.getD 40 undef, arr.getD 41 undef, arr.getD 42 undef, arr.getD 43 undef, arr.getD 44 undef, arr.getD 45 undef, arr.getD 46 undef, arr.getD 47 undef, arr.getD 48 undef, arr.getD 49 undef, arr.getD 50 undef, arr.getD 51 undef, arr.getD 52 undef, arr.getD 53 undef, arr.getD 54 undef, arr.getD 55 undef, arr.getD 56 undef, arr.getD 57 undef, arr.getD 58 undef, arr.getD 59 undef, arr.getD 60 undef, arr.getD 61 undef, arr.getD 62 undef, arr.getD 63 undef, arr.getD 64 undef, arr.getD 65 undef, arr.getD 66 undef, arr.getD 67 undef, arr.getD 68 undef, arr.getD 69 undef, arr.getD 70 undef, arr.getD 71 undef, arr.getD 72 undef, arr.getD 73 undef, arr.getD 74 undef, arr.getD 75 undef, arr.getD 76 undef, arr.getD 77 undef, arr.getD 78 undef, arr.getD 79 undef, arr.getD 80 undef, arr.getD 81 undef, arr.getD 82 undef, arr.getD 83 undef, arr.getD 84 undef, arr.getD 85 undef, arr.getD 86 undef, arr.getD 87 undef, arr.getD 88 undef, arr.getD 89 undef, arr.getD 90 undef, arr.getD 91 undef, arr.getD 92 undef, arr.getD 93 undef, arr.getD 94 undef, arr.getD 95 undef, arr.getD 96 undef, arr.getD 97 undef, arr.getD 98 undef, arr.getD 99 undef, arr.getD 100 undef, arr.getD 101 undef, arr.getD 102 undef, arr.getD 103 undef, arr.getD 104 undef, arr.getD 105 undef, arr.getD 106 undef, arr.getD 107 undef, arr.getD 108 undef, arr.getD 109 undef, arr.getD 110 undef, arr.getD 111 undef, arr.getD 112 undef, arr.getD 113 undef, arr.getD 114 undef, arr.getD 115 undef, arr.getD 116 undef, arr.getD 117 undef, arr.getD 118 undef, arr.getD 119 undef, arr.getD 120 undef, arr.getD 121 undef, arr.getD 122 undef, arr.getD 123 undef, arr.getD 124 undef, arr.getD 125 undef, arr.getD 126 undef, arr.getD 127 undef, arr.getD 128 undef, arr.getD 129 undef, arr.getD 130 undef, arr.getD 131 undef, arr.getD 132 undef, arr.getD 133 undef, arr.getD 134 undef, arr.getD 135 undef, arr.getD 136 undef, arr.getD 137 undef, arr.getD 138 undef, arr.getD 139 undef, arr.getD 140 undef, arr.getD 141 undef, arr.getD 142 undef, arr.getD 143 undef, arr.getD 144 undef, arr.getD 145 undef, arr.getD 146 undef, arr.getD 147 undef, arr.getD 148 undef, arr.getD 149 undef, arr.getD 150 undef, arr.getD 151 undef, arr.getD 152 undef, arr.getD 153 undef, arr.getD 154 undef, arr.getD 155 undef, arr.getD 156 undef, arr.getD 157 undef, arr.getD 158 undef, arr.getD 159 undef, arr.getD 160 undef, arr.getD 161 undef, arr.getD 162 undef, arr.getD 163 undef, arr.getD 164 undef, arr.getD 165 undef, arr.getD 166 undef, arr.getD 167 undef, arr.getD 168 undef, arr.getD 169 undef, arr.getD 170 undef, arr.getD 171 undef, arr.getD 172 undef, arr.getD 173 undef, arr.getD 174 undef, arr.getD 175 undef, arr.getD 176 undef, arr.getD 177 undef, arr.getD 178 undef, arr.getD 179 undef, arr.getD 180 undef, arr.getD 181 undef, arr.getD 182 undef, arr.getD 183 undef, arr.getD 184 undef, arr.getD 185 undef, arr.getD 186 undef, arr.getD 187 undef, arr.getD 188 undef, arr.getD 189 undef, arr.getD 190 undef], defers := [] }) (hv : v7 = .int .i64 (p : Int)) (R : TokSt s w p ts v6 w') : SpecI s w { tmps := arr, defers := [] } w' :=
  ⟨fun i => arr.getD i undef, p, ts, v6, v7, hv, R, h⟩
/-- What is asked where the function returns a fault. -/
def RetOf (s : ByteArray) (w : World) (Q : Exit → Act → World → Prop) : Prop :=
  ∀ (a : Act) (w' : World) (p : Nat) (c : Int), tokAns (lst s) = .bad p c → Below w.heap.size w w' → a.defers = [] → a.tmps.getD 2 undef = .slice (some ⟨w.heap.size, 0, none⟩) 0 0 → a.tmps.getD 3 undef = .int .i64 (p : Int) → a.tmps.getD 4 undef = .int .i64 c → Q .ret a w'
/-- What is asked where the loop ends. -/
def EndOf (s : ByteArray) (w : World) (Q : Exit → Act → World → Prop) : Prop :=
  ∀ (a : Act) (w' : World) (ts : List Tk) (v6 : Value), tokAns (lst s) = .ok ts → TokSt s w s.size ts v6 w' → a.defers = [] → a.tmps.size = 191 → a.tmps.getD 6 undef = v6 → Q (.exit 0) a w'

set_option maxRecDepth 1000000 in
set_option maxHeartbeats 4000000 in
theorem specCase_blank (s : ByteArray) (hs : s.size ≤ 3000) (w : World) (Q0 : Exit → Act → World → Prop) (hret : RetOf s w Q0) (u : Nat → Value) (p : Nat) (ts : List Tk) (v6 : Value) (wr : World) (hst : TokSt s w p ts v6 wr) (hlt : p < s.size) (hbk : isBlk s[p] = true) :
    Code.wp Tryd.prog ((Tryd.f8.body.bind firstLoop).getD .skip) (Exit.then (fun a' w'' => SpecI s w a' w'' ∧ specMu s a' < s.size - p) Q0) { tmps := #[.string s, u 1, u 2, u 3, u 4, .slice (some ⟨w.heap.size, 0, none⟩) 0 0, v6, .int .i64 (p : Int), u 8, u 9, u 10, u 11, u 12, u 13, u 14, u 15, u 16, u 17, u 18, u 19, u 20, u 21, u 22, u 23, u 24, u 25, u 26, u 27, u 28, u 29, u 30, u 31, u 32, u 33, u 34, u 35, u 36, u 37, u 38, u 39, u 40, u 41, u 42, u 43, u 44, u 45, u 46, u 47, u 48, u 49, u 50, u 51, u 52, u 53, u 54, u 55, u 56, u 57, u 58, u 59, u 60, u 61, u 62, u 63, u 64, u 65, u 66, u 67, u 68, u 69, u 70, u 71, u 72, u 73, u 74, u 75, u 76, u 77, u 78, u 79, u 80, u 81, u 82, u 83, u 84, u 85, u 86, u 87, u 88, u 89, u 90, u 91, u 92, u 93, u 94, u 95, u 96, u 97, u 98, u 99, u 100, u 101, u 102, u 103, u 104, u 105, u 106, u 107, u 108, u 109, u 110, u 111, u 112, u 113, u 114, u 115, u 116, u 117, u 118, u 119, u 120, u 121, u 122, u 123, u 124, u 125, u 126, u 127, u 128, u 129, u 130, u 131, u 132, u 133, u 134, u 135, u 136, u 137, u 138, u 139, u 140, u 141, u 142, u 143, u 144, u 145, u 146, u 147, u 148, u 149, u 150, u 151, u 152, u 153, u 154, u 155, u 156, u 157, u 158, u 159, u 160, u 161, u 162, u 163, u 164, u 165, u 166, u 167, u 168, u 169, u 170, u 171, u 172, u 173, u 174, u 175, u 176, u 177, u 178, u 179, u 180, u 181, u 182, u 183, u 184, u 185, u 186, u 187, u 188, u 189, u 190], defers := [] } wr := by
  have HL := Lib.hid (lst_len s)
  have HRET := Lib.hid hret
  clear hret
  obtain ⟨i0, hi, hz0, hz1, hz2⟩ := info_parts infoTok
  conv => arg 2; whnf
  have HLT : Hid (p < (lst s).length) := Lib.hid (by rw [HL.out]; exact hlt)
  go_upto_region 15 with (fail)
  generalize hz : (s[p].toNat : Int) = z
  have HZ := Lib.hid hz
  clear hz
  have HR := Lib.hid (res_blk HLT.out hbk)
  have hor : z = 32 ∨ z = 9 ∨ z = 10 ∨ z = 13 := by
    have := blk_or hbk
    rw [← HZ.out]; omega
  clear hbk HZ
  rcases hor with rfl | rfl | rfl | rfl
  all_goals
    go_wp2
    refine ⟨SpecI_of (p := p + 1) _ rfl (by go_num) (tokSt_go hst (tok_block wr p).1 (by omega) (by omega) HR.out), ?_⟩
    show s.size - (intOf (.int .i64 _)).toNat < s.size - p
    simp [intOf]; omega

set_option maxRecDepth 1000000 in
set_option maxHeartbeats 4000000 in
theorem specCase_com (s : ByteArray) (hs : s.size ≤ 3000) (w : World) (Q0 : Exit → Act → World → Prop) (hret : RetOf s w Q0) (u : Nat → Value) (p : Nat) (ts : List Tk) (v6 : Value) (wr : World) (hst : TokSt s w p ts v6 wr) (hlt : p < s.size) (hbk : isBlk s[p] = false) (hcm : isCom (lst s) p = true) :
    Code.wp Tryd.prog ((Tryd.f8.body.bind firstLoop).getD .skip) (Exit.then (fun a' w'' => SpecI s w a' w'' ∧ specMu s a' < s.size - p) Q0) { tmps := #[.string s, u 1, u 2, u 3, u 4, .slice (some ⟨w.heap.size, 0, none⟩) 0 0, v6, .int .i64 (p : Int), u 8, u 9, u 10, u 11, u 12, u 13, u 14, u 15, u 16, u 17, u 18, u 19, u 20, u 21, u 22, u 23, u 24, u 25, u 26, u 27, u 28, u 29, u 30, u 31, u 32, u 33, u 34, u 35, u 36, u 37, u 38, u 39, u 40, u 41, u 42, u 43, u 44, u 45, u 46, u 47, u 48, u 49, u 50, u 51, u 52, u 53, u 54, u 55, u 56, u 57, u 58, u 59, u 60, u 61, u 62, u 63, u 64, u 65, u 66, u 67, u 68, u 69, u 70, u 71, u 72, u 73, u 74, u 75, u 76, u 77, u 78, u 79, u 80, u 81, u 82, u 83, u 84, u 85, u 86, u 87, u 88, u 89, u 90, u 91, u 92, u 93, u 94, u 95, u 96, u 97, u 98, u 99, u 100, u 101, u 102, u 103, u 104, u 105, u 106, u 107, u 108, u 109, u 110, u 111, u 112, u 113, u 114, u 115, u 116, u 117, u 118, u 119, u 120, u 121, u 122, u 123, u 124, u 125, u 126, u 127, u 128, u 129, u 130, u 131, u 132, u 133, u 134, u 135, u 136, u 137, u 138, u 139, u 140, u 141, u 142, u 143, u 144, u 145, u 146, u 147, u 148, u 149, u 150, u 151, u 152, u 153, u 154, u 155, u 156, u 157, u 158, u 159, u 160, u 161, u 162, u 163, u 164, u 165, u 166, u 167, u 168, u 169, u 170, u 171, u 172, u 173, u 174, u 175, u 176, u 177, u 178, u 179, u 180, u 181, u 182, u 183, u 184, u 185, u 186, u 187, u 188, u 189, u 190], defers := [] } wr := by
  have HL := Lib.hid (lst_len s)
  have HRET := Lib.hid hret
  clear hret
  obtain ⟨i0, hi, hz0, hz1, hz2⟩ := info_parts infoTok
  conv => arg 2; whnf
  have HLT : Hid (p < (lst s).length) := Lib.hid (by rw [HL.out]; exact hlt)
  go_upto_region 15 with (fail)
  generalize hz : (s[p].toNat : Int) = z
  have HZ := Lib.hid hz
  clear hz
  have hnz : z ≠ 32 ∧ z ≠ 9 ∧ z ≠ 10 ∧ z ≠ 13 := by
    have := blk_no hbk
    rw [← HZ.out]; omega
  have e32 : (z == 32) = false := beq_eq_false_iff_ne.2 hnz.1
  have e9 : (z == 9) = false := beq_eq_false_iff_ne.2 hnz.2.1
  have e10 : (z == 10) = false := beq_eq_false_iff_ne.2 hnz.2.2.1
  have e13 : (z == 13) = false := beq_eq_false_iff_ne.2 hnz.2.2.2
  clear hnz
  have hc1 := (com_lt hcm).1
  have hp1 : p + 1 < s.size := by have := HL.out; omega
  have hz47 : z = 47 ∧ s[p + 1].toNat = 47 := by
    unfold isCom at hcm
    rw [List.getElem?_eq_getElem HLT.out, List.getElem?_eq_getElem hc1] at hcm
    simp at hcm
    exact ⟨by rw [← HZ.out]; have := hcm.1; exact congrArg Int.ofNat this, hcm.2⟩
  obtain ⟨rfl, hn47⟩ := hz47
  have HRC := Lib.hid (res_com hcm)
  have HCL := Lib.hid (com_lt hcm)
  have HST := Lib.hid hst
  clear hst hcm hc1 hbk e32 e9 e10 e13 HZ
  go_wp2
  go_loopw [7] (fun v wx => ScanRel1 (notB 10) s p (wr.alloc (.cells #[.int .i64 0, .string ⟨#[]⟩, .int .i64 (p : Int)] 29)) v wx) (fun v _ => (s.size - (intOf v).toNat))
  case atStart => exact ⟨p, rfl, rfl, Nat.le_refl _, by omega, fun j h a b => by omega⟩
  case round =>
    clear hn47
    obtain ⟨r, rfl, rfl, hqr, hr, hall⟩ := hrel
    have HALL := Lib.hid hall
    clear hall
    by_cases hlr : r < s.size
    · by_cases hd10 : s[r].toNat = 10
      · have HQ : Hid (stopAt (notB 10) (lst s) p = r) := Lib.hid (stopAt_upto hqr (by rw [HL.out]; exact hlr) HALL.out (notB_no hd10))
        go_wp2
        refine ⟨SpecI_of (p := r) _ rfl (rfl) (tokSt_go HST.out (tok_block wr p).1 hqr hr (by rw [HRC.out, HQ.out])), ?_⟩
        have := HCL.out; have := HQ.out
        show s.size - (intOf (.int .i64 _)).toNat < s.size - p
        simp [intOf]; omega
      · have HA2 : Hid (∀ j (h : j < (lst s).length), p ≤ j → j < r + 1 → notB 10 (lst s)[j] = true) := Lib.hid (fun j h a c => by
          by_cases hj : j < r
          · exact HALL.out j h a hj
          · obtain rfl : j = r := by omega
            exact notB_yes hd10)
        have hd11 : ((s[r].toNat : Int) != 10) = true := by simp; omega
        go_wp2
        go_roundw
        case rel => exact ⟨r + 1, rfl, by go_num, by omega, by omega, HA2.out⟩
        case measure => simp [intOf]; omega
    · have HQ : Hid (stopAt (notB 10) (lst s) p = r) := Lib.hid (by
        have := stopAt_full (P := notB 10) (l := lst s) (p := p) (by rw [HL.out]; omega) (fun j h a => HALL.out j h a (by rw [HL.out] at h; omega))
        rw [this, HL.out]; omega)
      have hlt2 : decide ((r : Int) < (s.size : Int)) = false := by simp; omega
      go_wp2
      refine ⟨SpecI_of (p := r) _ rfl (rfl) (tokSt_go HST.out (tok_block wr p).1 hqr hr (by rw [HRC.out, HQ.out])), ?_⟩
      have := HCL.out; have := HQ.out
      show s.size - (intOf (.int .i64 _)).toNat < s.size - p
      simp [intOf]; omega


end Go.Proofs.YtngnmfoephegmaaDoor
