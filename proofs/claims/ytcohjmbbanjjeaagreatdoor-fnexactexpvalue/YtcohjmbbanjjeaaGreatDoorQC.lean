/-
  WHAT THE LIBRARY's VARIABLES GIVE, BELOW A BASE; strconv.Atoi AT EVERY STRING.
  THE WALKS over the predicates on bytes, of impl and of spec.
  THE WALK over (*termStore).readNumber.
  THE WALKS over nameEnd, isBigName, (*termStore).readSymbol.
  THE WALKS over readConstructor, readArgs, readTerm, read: by one induction.
  THE WALKS over (*termStore).read, impl.TermKind, impl.TermNum.
-/
import Derived.Test.YtcohjmbbanjjeaaGreatDoorQA
import Derived.Test.YtcohjmbbanjjeaaGreatDoorShelfQ
import Derived.Test.YtcohjmbbanjjeaaGreatDoorQB
import Derived.Deep.DeepCutAuto
import Derived.Lib.AtoiAllCases
namespace Go.Proofs.YtcohjmbbanjjeaaGreatDoor
open Go Go.RowKit

theorem gSyn : Tryz.prog.globalNamed "strconv.ErrSyntax" = some ((Tryz.prog.globalNamed "strconv.ErrSyntax").getD 0) := by kernel_rfl
theorem gRng : Tryz.prog.globalNamed "strconv.ErrRange" = some ((Tryz.prog.globalNamed "strconv.ErrRange").getD 0) := by kernel_rfl

structure Env (base : Nat) (w : World) : Prop where
  size : base ≤ w.heap.size
  lp : (Tryz.prog.globalNamed "internal/strconv.uint64pow10").getD 0 < base
  ls : (Tryz.prog.globalNamed "strconv.ErrSyntax").getD 0 < base
  lr : (Tryz.prog.globalNamed "strconv.ErrRange").getD 0 < base
  pow : Pow w
  syn : ∃ tp p, w.var? Tryz.prog "strconv.ErrSyntax" = some #[.iface tp p]
  rng : ∃ tp p, w.var? Tryz.prog "strconv.ErrRange" = some #[.iface tp p]

theorem var_keeps {w w' : World} {base g : Nat} {n : String} (hg : Tryz.prog.globalNamed n = some g) (hlt : g < base) (hb : Below base w w') : w'.var? Tryz.prog n = w.var? Tryz.prog n := by
  unfold World.var?
  rw [hg]
  simp only [Option.bind_some]
  rw [hb.block g hlt]

theorem Env.stays {base : Nat} {w w' : World} (h : Env base w) (hb : Below base w w') : Env base w' :=
  ⟨Nat.le_trans h.size hb.size, h.lp, h.ls, h.lr, (var_keeps gPow h.lp hb).trans h.pow, by rw [var_keeps gSyn h.ls hb]; exact h.syn, by rw [var_keeps gRng h.lr hb]; exact h.rng⟩

theorem Env.top {base : Nat} {w : World} (h : Env base w) : Env w.heap.size w :=
  ⟨Nat.le_refl _, Nat.lt_of_lt_of_le h.lp h.size, Nat.lt_of_lt_of_le h.ls h.size, Nat.lt_of_lt_of_le h.lr h.size, h.pow, h.syn, h.rng⟩

/-- strconv.Atoi of a text that is no int: an error. -/
theorem atoi_bad (s : ByteArray) (hlim : s.size ≤ 1000) (h : ∀ v, Lib.atoiAll s.data.toList ≠ .ok v) (base : Nat) (w : World) (hE : Env base w) :
    Calls Tryz.prog 109 #[.string s] w fun e w' => ∃ (n : Int) (a : Addr), e = .returned (.tuple #[.int .i64 n, .iface 192 (.pointer (some a))]) ∧ Below w.heap.size w w' := by
  rcases hh : Lib.atoiAll s.data.toList with v | _ | _
  · exact absurd hh (h v)
  · obtain ⟨tp, p, hv⟩ := hE.syn
    exact (Any.strconv_Atoi_syntax_var Tryz.laysC172 s (by omega) hh tp p w hv).mono fun e w' ⟨N, he, _, _, hb⟩ => ⟨_, _, he, hb⟩
  · obtain ⟨tp, p, hv⟩ := hE.rng
    exact (Any.strconv_Atoi_range_var Tryz.laysC172 s (by omega) hh tp p w hv).mono fun e w' ⟨N, he, _, _, hb⟩ => ⟨_, _, he, hb⟩

end Go.Proofs.YtcohjmbbanjjeaaGreatDoor

namespace Go.Proofs.YtcohjmbbanjjeaaGreatDoor
open Go Go.RowKit

/-- In lo .. hi. -/
def inB (lo hi : Nat) (c : UInt8) : Bool := lo ≤ c.toNat && c.toNat ≤ hi
theorem inB_lo {lo hi : Nat} {c : UInt8} (h : c.toNat < lo) : inB lo hi c = false := by simp [inB]; omega
theorem inB_hi {lo hi : Nat} {c : UInt8} (h : hi < c.toNat) : inB lo hi c = false := by simp [inB]; omega
theorem inB_in {lo hi : Nat} {c : UInt8} (h : lo ≤ c.toNat) (h' : c.toNat ≤ hi) : inB lo hi c = true := by simp [inB]; omega
theorem isDig_inB : isDig = inB 48 57 := rfl
theorem isBig_inB : isBig = inB 65 90 := rfl
theorem isSml_inB : isSml = inB 97 122 := rfl

set_option maxHeartbeats 400000 in
theorem isDigit_any (c : UInt8) (w : World) : Calls Tryz.prog 108 #[.int .u8 (c.toNat : Int)] w fun e w' => e = .returned (.bool (inB 48 57 c)) ∧ w = w' := by
  have hc := c.toNat_lt
  by_cases h1 : 48 ≤ c.toNat
  · by_cases h2 : c.toNat ≤ 57
    · rw [inB_in h1 h2]
      generalize c.toNat = n at *
      have h3 : decide ((n : Int) ≤ 57) = true := by simp; omega
      go_enter Tryz.func108, Tryz.ntmps108
      go_wp2
      go_ret
      exact ⟨rfl, rfl⟩
    · rw [inB_hi (by omega)]
      generalize c.toNat = n at *
      have h3 : decide ((n : Int) ≤ 57) = false := by simp; omega
      go_enter Tryz.func108, Tryz.ntmps108
      go_wp2
      go_ret
      exact ⟨rfl, rfl⟩
  · rw [inB_lo (by omega)]
    generalize c.toNat = n at *
    have h3 : decide ((48 : Int) ≤ (n : Int)) = false := by simp; omega
    go_enter Tryz.func108, Tryz.ntmps108
    go_wp2
    go_ret
    exact ⟨rfl, rfl⟩

set_option maxHeartbeats 400000 in
theorem isBigLetter_any (c : UInt8) (w : World) : Calls Tryz.prog 87 #[.int .u8 (c.toNat : Int)] w fun e w' => e = .returned (.bool (inB 65 90 c)) ∧ w = w' := by
  have hc := c.toNat_lt
  by_cases h1 : 65 ≤ c.toNat
  · by_cases h2 : c.toNat ≤ 90
    · rw [inB_in h1 h2]
      generalize c.toNat = n at *
      have h3 : decide ((n : Int) ≤ 90) = true := by simp; omega
      go_enter Tryz.func87, Tryz.ntmps87
      go_wp2
      go_ret
      exact ⟨rfl, rfl⟩
    · rw [inB_hi (by omega)]
      generalize c.toNat = n at *
      have h3 : decide ((n : Int) ≤ 90) = false := by simp; omega
      go_enter Tryz.func87, Tryz.ntmps87
      go_wp2
      go_ret
      exact ⟨rfl, rfl⟩
  · rw [inB_lo (by omega)]
    generalize c.toNat = n at *
    have h3 : decide ((65 : Int) ≤ (n : Int)) = false := by simp; omega
    go_enter Tryz.func87, Tryz.ntmps87
    go_wp2
    go_ret
    exact ⟨rfl, rfl⟩

set_option maxHeartbeats 400000 in
theorem isSmallLetter_any (c : UInt8) (w : World) : Calls Tryz.prog 125 #[.int .u8 (c.toNat : Int)] w fun e w' => e = .returned (.bool (inB 97 122 c)) ∧ w = w' := by
  have hc := c.toNat_lt
  by_cases h1 : 97 ≤ c.toNat
  · by_cases h2 : c.toNat ≤ 122
    · rw [inB_in h1 h2]
      generalize c.toNat = n at *
      have h3 : decide ((n : Int) ≤ 122) = true := by simp; omega
      go_enter Tryz.func125, Tryz.ntmps125
      go_wp2
      go_ret
      exact ⟨rfl, rfl⟩
    · rw [inB_hi (by omega)]
      generalize c.toNat = n at *
      have h3 : decide ((n : Int) ≤ 122) = false := by simp; omega
      go_enter Tryz.func125, Tryz.ntmps125
      go_wp2
      go_ret
      exact ⟨rfl, rfl⟩
  · rw [inB_lo (by omega)]
    generalize c.toNat = n at *
    have h3 : decide ((97 : Int) ≤ (n : Int)) = false := by simp; omega
    go_enter Tryz.func125, Tryz.ntmps125
    go_wp2
    go_ret
    exact ⟨rfl, rfl⟩

set_option maxHeartbeats 400000 in
theorem l01Digit_any (c : UInt8) (w : World) : Calls Tryz.prog 61 #[.int .u8 (c.toNat : Int)] w fun e w' => e = .returned (.bool (inB 48 57 c)) ∧ w = w' := by
  have hc := c.toNat_lt
  by_cases h1 : 48 ≤ c.toNat
  · by_cases h2 : c.toNat ≤ 57
    · rw [inB_in h1 h2]
      generalize c.toNat = n at *
      have h3 : decide ((n : Int) ≤ 57) = true := by simp; omega
      go_enter Tryz.func61, Tryz.ntmps61
      go_wp2
      go_ret
      exact ⟨rfl, rfl⟩
    · rw [inB_hi (by omega)]
      generalize c.toNat = n at *
      have h3 : decide ((n : Int) ≤ 57) = false := by simp; omega
      go_enter Tryz.func61, Tryz.ntmps61
      go_wp2
      go_ret
      exact ⟨rfl, rfl⟩
  · rw [inB_lo (by omega)]
    generalize c.toNat = n at *
    have h3 : decide ((48 : Int) ≤ (n : Int)) = false := by simp; omega
    go_enter Tryz.func61, Tryz.ntmps61
    go_wp2
    go_ret
    exact ⟨rfl, rfl⟩

set_option maxHeartbeats 400000 in
theorem l01Big_any (c : UInt8) (w : World) : Calls Tryz.prog 58 #[.int .u8 (c.toNat : Int)] w fun e w' => e = .returned (.bool (inB 65 90 c)) ∧ w = w' := by
  have hc := c.toNat_lt
  by_cases h1 : 65 ≤ c.toNat
  · by_cases h2 : c.toNat ≤ 90
    · rw [inB_in h1 h2]
      generalize c.toNat = n at *
      have h3 : decide ((n : Int) ≤ 90) = true := by simp; omega
      go_enter Tryz.func58, Tryz.ntmps58
      go_wp2
      go_ret
      exact ⟨rfl, rfl⟩
    · rw [inB_hi (by omega)]
      generalize c.toNat = n at *
      have h3 : decide ((n : Int) ≤ 90) = false := by simp; omega
      go_enter Tryz.func58, Tryz.ntmps58
      go_wp2
      go_ret
      exact ⟨rfl, rfl⟩
  · rw [inB_lo (by omega)]
    generalize c.toNat = n at *
    have h3 : decide ((65 : Int) ≤ (n : Int)) = false := by simp; omega
    go_enter Tryz.func58, Tryz.ntmps58
    go_wp2
    go_ret
    exact ⟨rfl, rfl⟩

set_option maxHeartbeats 400000 in
theorem l01Small_any (c : UInt8) (w : World) : Calls Tryz.prog 59 #[.int .u8 (c.toNat : Int)] w fun e w' => e = .returned (.bool (inB 97 122 c)) ∧ w = w' := by
  have hc := c.toNat_lt
  by_cases h1 : 97 ≤ c.toNat
  · by_cases h2 : c.toNat ≤ 122
    · rw [inB_in h1 h2]
      generalize c.toNat = n at *
      have h3 : decide ((n : Int) ≤ 122) = true := by simp; omega
      go_enter Tryz.func59, Tryz.ntmps59
      go_wp2
      go_ret
      exact ⟨rfl, rfl⟩
    · rw [inB_hi (by omega)]
      generalize c.toNat = n at *
      have h3 : decide ((n : Int) ≤ 122) = false := by simp; omega
      go_enter Tryz.func59, Tryz.ntmps59
      go_wp2
      go_ret
      exact ⟨rfl, rfl⟩
  · rw [inB_lo (by omega)]
    generalize c.toNat = n at *
    have h3 : decide ((97 : Int) ≤ (n : Int)) = false := by simp; omega
    go_enter Tryz.func59, Tryz.ntmps59
    go_wp2
    go_ret
    exact ⟨rfl, rfl⟩

set_option maxHeartbeats 400000 in
theorem isNameByte_any (c : UInt8) (w : World) : Calls Tryz.prog 116 #[.int .u8 (c.toNat : Int)] w fun e w' => e = .returned (.bool (isNam c)) ∧ w = w' := by
  have hN : isNam c = (inB 65 90 c || inB 97 122 c || inB 48 57 c || c.toNat == 95) := rfl
  rw [hN]
  clear hN
  have hc := c.toNat_lt
  by_cases h1 : inB 65 90 c = true
  · rw [show (inB 65 90 c || inB 97 122 c || inB 48 57 c || c.toNat == 95) = true from by simp [h1]]
    go_enter Tryz.func116, Tryz.ntmps116
    go_wp2_with fail
    refine (isBigLetter_any c _).mono ?_
    rintro e w' ⟨rfl, rfl⟩
    go_wp2
    go_ret
    exact ⟨rfl, rfl⟩
  have h1 : inB 65 90 c = false := by simpa using h1
  by_cases h2 : inB 97 122 c = true
  · rw [show (inB 65 90 c || inB 97 122 c || inB 48 57 c || c.toNat == 95) = true from by simp [h2]]
    go_enter Tryz.func116, Tryz.ntmps116
    go_wp2_with fail
    refine (isBigLetter_any c _).mono ?_
    rintro e w' ⟨rfl, rfl⟩
    go_wp2_with fail
    refine (isSmallLetter_any c _).mono ?_
    rintro e w' ⟨rfl, rfl⟩
    go_wp2
    go_ret
    exact ⟨rfl, rfl⟩
  have h2 : inB 97 122 c = false := by simpa using h2
  by_cases h3 : inB 48 57 c = true
  · rw [show (inB 65 90 c || inB 97 122 c || inB 48 57 c || c.toNat == 95) = true from by simp [h3]]
    go_enter Tryz.func116, Tryz.ntmps116
    go_wp2_with fail
    refine (isBigLetter_any c _).mono ?_
    rintro e w' ⟨rfl, rfl⟩
    go_wp2_with fail
    refine (isSmallLetter_any c _).mono ?_
    rintro e w' ⟨rfl, rfl⟩
    go_wp2_with fail
    refine (isDigit_any c _).mono ?_
    rintro e w' ⟨rfl, rfl⟩
    go_wp2
    go_ret
    exact ⟨rfl, rfl⟩
  have h3 : inB 48 57 c = false := by simpa using h3
  have hE : ((c.toNat : Int) == 95) = (c.toNat == 95) := by
    rw [Bool.eq_iff_iff]; simp; omega
  rw [show (inB 65 90 c || inB 97 122 c || inB 48 57 c || c.toNat == 95) = ((c.toNat : Int) == 95) from by simp [h1, h2, h3, hE]]
  have HE := Lib.hid hE
  clear hE
  · go_enter Tryz.func116, Tryz.ntmps116
    go_wp2_with fail
    refine (isBigLetter_any c _).mono ?_
    rintro e w' ⟨rfl, rfl⟩
    go_wp2_with fail
    refine (isSmallLetter_any c _).mono ?_
    rintro e w' ⟨rfl, rfl⟩
    go_wp2_with fail
    refine (isDigit_any c _).mono ?_
    rintro e w' ⟨rfl, rfl⟩
    go_wp2
    go_ret
    exact ⟨rfl, rfl⟩

set_option maxHeartbeats 400000 in
theorem l01Letter_any (c : UInt8) (w : World) : Calls Tryz.prog 60 #[.int .u8 (c.toNat : Int)] w fun e w' => e = .returned (.bool (isNam c)) ∧ w = w' := by
  have hN : isNam c = (inB 65 90 c || inB 97 122 c || inB 48 57 c || c.toNat == 95) := rfl
  rw [hN]
  clear hN
  have hc := c.toNat_lt
  by_cases h1 : inB 97 122 c = true
  · rw [show (inB 65 90 c || inB 97 122 c || inB 48 57 c || c.toNat == 95) = true from by simp [h1]]
    go_enter Tryz.func60, Tryz.ntmps60
    go_wp2_with fail
    refine (l01Small_any c _).mono ?_
    rintro e w' ⟨rfl, rfl⟩
    go_wp2
    go_ret
    exact ⟨rfl, rfl⟩
  have h1 : inB 97 122 c = false := by simpa using h1
  by_cases h2 : inB 65 90 c = true
  · rw [show (inB 65 90 c || inB 97 122 c || inB 48 57 c || c.toNat == 95) = true from by simp [h2]]
    go_enter Tryz.func60, Tryz.ntmps60
    go_wp2_with fail
    refine (l01Small_any c _).mono ?_
    rintro e w' ⟨rfl, rfl⟩
    go_wp2_with fail
    refine (l01Big_any c _).mono ?_
    rintro e w' ⟨rfl, rfl⟩
    go_wp2
    go_ret
    exact ⟨rfl, rfl⟩
  have h2 : inB 65 90 c = false := by simpa using h2
  by_cases h3 : inB 48 57 c = true
  · rw [show (inB 65 90 c || inB 97 122 c || inB 48 57 c || c.toNat == 95) = true from by simp [h3]]
    go_enter Tryz.func60, Tryz.ntmps60
    go_wp2_with fail
    refine (l01Small_any c _).mono ?_
    rintro e w' ⟨rfl, rfl⟩
    go_wp2_with fail
    refine (l01Big_any c _).mono ?_
    rintro e w' ⟨rfl, rfl⟩
    go_wp2_with fail
    refine (l01Digit_any c _).mono ?_
    rintro e w' ⟨rfl, rfl⟩
    go_wp2
    go_ret
    exact ⟨rfl, rfl⟩
  have h3 : inB 48 57 c = false := by simpa using h3
  have hE : ((c.toNat : Int) == 95) = (c.toNat == 95) := by
    rw [Bool.eq_iff_iff]; simp; omega
  rw [show (inB 65 90 c || inB 97 122 c || inB 48 57 c || c.toNat == 95) = ((c.toNat : Int) == 95) from by simp [h1, h2, h3, hE]]
  have HE := Lib.hid hE
  clear hE
  · go_enter Tryz.func60, Tryz.ntmps60
    go_wp2_with fail
    refine (l01Small_any c _).mono ?_
    rintro e w' ⟨rfl, rfl⟩
    go_wp2_with fail
    refine (l01Big_any c _).mono ?_
    rintro e w' ⟨rfl, rfl⟩
    go_wp2_with fail
    refine (l01Digit_any c _).mono ?_
    rintro e w' ⟨rfl, rfl⟩
    go_wp2
    go_ret
    exact ⟨rfl, rfl⟩

set_option maxHeartbeats 400000 in
theorem isSymbolByte_any (c : UInt8) (w : World) : Calls Tryz.prog 104 #[.int .u8 (c.toNat : Int)] w fun e w' => e = .returned (.bool (isSyB c)) ∧ w = w' := by
  have hN : isSyB c = (decide (32 ≤ c.toNat) && decide (c.toNat ≤ 126) && c.toNat != 34 && c.toNat != 92) := rfl
  rw [hN]
  have hc := c.toNat_lt
  clear hN
  generalize c.toNat = n at *
  by_cases h1 : 32 ≤ n
  · have d1 : decide ((32 : Int) ≤ (n : Int)) = true := by simp; omega
    by_cases h2 : n ≤ 126
    · have d2 : decide ((n : Int) ≤ 126) = true := by simp; omega
      by_cases h3 : n = 34
      · subst h3
        go_enter Tryz.func104, Tryz.ntmps104
        go_wp2
        go_ret
        exact ⟨rfl, rfl⟩
      · have d3 : ((n : Int) != 34) = true := by rw [bne_iff_ne]; omega
        by_cases h4 : n = 92
        · subst h4
          go_enter Tryz.func104, Tryz.ntmps104
          go_wp2
          go_ret
          exact ⟨rfl, rfl⟩
        · have d4 : ((n : Int) != 92) = true := by rw [bne_iff_ne]; omega
          rw [show (decide (32 ≤ n) && decide (n ≤ 126) && n != 34 && n != 92) = true from by simp [h1, h2, h3, h4]]
          go_enter Tryz.func104, Tryz.ntmps104
          go_wp2
          go_ret
          exact ⟨rfl, rfl⟩
    · have d2 : decide ((n : Int) ≤ 126) = false := by simp; omega
      rw [show (decide (32 ≤ n) && decide (n ≤ 126) && n != 34 && n != 92) = false from by simp [h2]]
      go_enter Tryz.func104, Tryz.ntmps104
      go_wp2
      go_ret
      exact ⟨rfl, rfl⟩
  · have d1 : decide ((32 : Int) ≤ (n : Int)) = false := by simp; omega
    rw [show (decide (32 ≤ n) && decide (n ≤ 126) && n != 34 && n != 92) = false from by simp [h1]]
    go_enter Tryz.func104, Tryz.ntmps104
    go_wp2
    go_ret
    exact ⟨rfl, rfl⟩

end Go.Proofs.YtcohjmbbanjjeaaGreatDoor

namespace Go.Proofs.YtcohjmbbanjjeaaGreatDoor
open Go Go.RowKit Go.Maps Go.WideMaps

def lst (s : ByteArray) : List UInt8 := s.data.toList
theorem lst_len (s : ByteArray) : (lst s).length = s.size := Array.length_toList
theorem lst_get (s : ByteArray) (j : Nat) (_h : j < s.size) (h' : j < (lst s).length) : (lst s)[j] = s[j] := rfl

/-- What readNumber answers. -/
def NumPost (base b : Nat) (ns : List Nd) (cs : List Cl) (s : ByteArray) (p : Nat) (w : World) (e : Ending) (w' : World) : Prop :=
  (rdNum ((lst s).drop p) = none ∧ e = .returned (.tuple #[.int .i64 0, .int .i64 0, .bool false]) ∧ StoreAt w' base b ns cs ∧ Fr base w w') ∨
  (∃ (n : Int) (q i : Nat) (ns' : List Nd), rdNum ((lst s).drop p) = some (n, (lst s).drop q) ∧ p ≤ q ∧ q ≤ s.size ∧ e = .returned (.tuple #[.int .i64 (i : Int), .int .i64 (q : Int), .bool true]) ∧
    ns'[i]? = some ⟨1, ⟨#[]⟩, n, 0⟩ ∧ Ext ns ns' ∧ ns'.length ≤ ns.length + 1 ∧ StoreAt w' base b ns' cs ∧ Fr base w w')

/-- Where the digits begin. -/
def NumStart (s : ByteArray) (p : Nat) (w : World) (v : Value) (wc : World) : Prop :=
  ∃ q : Nat, w = wc ∧ v = .int .i64 (q : Int) ∧ ((∃ h : p < s.size, s[p].toNat = 45 ∧ q = p + 1) ∨ (∃ h : p < s.size, ¬ s[p].toNat = 45 ∧ q = p))

/-- So far there are digits from q on. -/
def DigRel (s : ByteArray) (q : Nat) (w : World) (v : Value) (wr : World) : Prop :=
  ∃ r : Nat, w = wr ∧ v = .int .i64 (r : Int) ∧ q ≤ r ∧ r ≤ s.size ∧ ∀ j (h : j < (lst s).length), q ≤ j → j < r → isDig (lst s)[j] = true

theorem numLen_eq {s : ByteArray} {p q r : Nat} (hq : (∃ h : p < s.size, s[p].toNat = 45 ∧ q = p + 1) ∨ (∃ h : p < s.size, ¬ s[p].toNat = 45 ∧ q = p))
    (hqr : q ≤ r) (hr : r ≤ s.size) (hall : ∀ j (h : j < (lst s).length), q ≤ j → j < r → isDig (lst s)[j] = true) (hstop : ∀ h : r < (lst s).length, isDig (lst s)[r] = false) : numLen ((lst s).drop p) = r - p := by
  have hl := lst_len s
  have sc := scan_stop isDig (lst s) q r hqr (by omega) hall hstop
  rcases hq with ⟨h, hm, rfl⟩ | ⟨h, hm, rfl⟩
  · rw [List.drop_eq_getElem_cons (by omega : p < (lst s).length)]
    have e : (lst s)[p]'(by omega) = 45 := by
      apply UInt8.toNat_inj.1
      rw [lst_get s p h]; exact hm
    simp only [numLen, e, if_true]
    rw [sc.1, List.length_take, List.length_drop]
    omega
  · have e : ¬ (lst s)[q]'(by omega) = 45 := by
      intro e
      apply hm
      have := congrArg UInt8.toNat e
      rw [lst_get s q h] at this; exact this
    have : numLen ((lst s).drop q) = (((lst s).drop q).takeWhile isDig).length := by
      rw [List.drop_eq_getElem_cons (by omega : q < (lst s).length)]
      simp only [numLen, e, if_false]
    rw [this, sc.1, List.length_take, List.length_drop]
    omega

theorem num_ok {v : Int} (h : -1000000 ≤ v) (h' : v ≤ 1000000) : (⟨1, ⟨#[]⟩, v, 0⟩ : Nd).Ok :=
  ⟨by show (0 : Int) ≤ 1; omega, by show (1 : Int) ≤ 3; omega, by show (0 : Nat) ≤ 1000; omega, h, h', by show (0 : Nat) ≤ 1000000; omega⟩

theorem atoi_good (s : ByteArray) (hlim : s.size ≤ 1000) (v : Int) (h : Lib.atoiAll (lst s) = .ok v) (w : World) :
    Calls Tryz.prog 109 #[.string s] w fun e w' => e = .returned (.tuple #[.int .i64 v, .nilIface]) ∧ Below w.heap.size w w' :=
  (Tryz.strconv_Atoi_ok s (by omega) v h w).mono fun e w' ⟨he, hw⟩ => ⟨he, by
    rcases hw with rfl | ⟨t, rfl⟩
    · exact Below.refl _ _
    · exact Joins.below_bytesWorld _ _ _ _ (Nat.le_refl _)⟩

theorem lst_extract (s : ByteArray) (p r : Nat) : lst (s.extract p r) = ((lst s).drop p).take (r - p) := by
  simp [lst, ByteArray.data_extract, Array.toList_extract, List.extract]

theorem lst_inj {s t : ByteArray} (h : lst s = lst t) : s = t := by
  cases s; cases t
  simp only [lst] at h
  rw [Array.toList_inj.1 h]

theorem rdNum_of {s : ByteArray} {p r : Nat} (hN : numLen ((lst s).drop p) = r - p) (hpr : p ≤ r) : rdNum ((lst s).drop p) = (numOf (lst (s.extract p r))).map fun n => (n, (lst s).drop r) := by
  unfold rdNum
  rw [hN, lst_extract, List.drop_drop, show p + (r - p) = r from by omega]

set_option maxRecDepth 100000 in
set_option maxHeartbeats 1000000 in
theorem readNumber_any {base b : Nat} {ns : List Nd} {cs : List Cl} (s : ByteArray) (hs : s.size ≤ 200) (p : Nat) (hp : p < s.size) (w : World) (hS : StoreAt w base b ns cs) (hE : Env base w) (hlen : ns.length ≤ 1000000) :
    Calls Tryz.prog 89 #[.pointer (some ⟨b, 0, none⟩), .string s, .int .i64 (p : Int)] w (NumPost base b ns cs s p w) := by
  have hpl : p < (lst s).length := by rw [lst_len]; exact hp
  go_enter Tryz.func89, Tryz.ntmps89
  go_upto_if 17 with fail
  go_cut [9] (fun v wc => NumStart s p w v wc)
  case first =>
    by_cases hm : s[p].toNat = 45
    · have hm1 : ((s[p].toNat : Int) == 45) = true := by rw [beq_iff_eq]; omega
      have HM := Lib.hid hm
      clear hm
      go_wp2
      go_meet
      exact ⟨p + 1, rfl, by go_num, .inl ⟨hp, HM.out, rfl⟩⟩
    · have hm1 : ((s[p].toNat : Int) == 45) = false := beq_eq_false_iff_ne.2 (by omega)
      go_wp2
      go_meet
      exact ⟨p, rfl, rfl, .inr ⟨hp, hm, rfl⟩⟩
  case rest =>
    obtain ⟨q, rfl, rfl, hq⟩ := hcut
    have hql : q ≤ s.size := by rcases hq with ⟨_, _, rfl⟩ | ⟨_, _, rfl⟩ <;> omega
    have hpq : p ≤ q := by rcases hq with ⟨_, _, rfl⟩ | ⟨_, _, rfl⟩ <;> omega
    have HQ := Lib.hid hq
    clear hq
    go_wp2
    go_loopw [9] (fun v wr => DigRel s q w v wr) (fun v _ => (s.size - (intOf v).toNat))
    case atStart => exact ⟨q, rfl, rfl, Nat.le_refl _, hql, fun j h a b => by omega⟩
    case round =>
      obtain ⟨r, rfl, rfl, hqr, hr, hall⟩ := hrel
      have HALL := Lib.hid hall
      clear hall
      by_cases hlt : r < s.size
      · by_cases hd : inB 48 57 s[r] = true
        · have hd2 : ∀ j (h : j < (lst s).length), q ≤ j → j < r + 1 → isDig (lst s)[j] = true := fun j h a b => by
            by_cases hj : j < r
            · exact HALL.out j h a hj
            · obtain rfl : j = r := by omega
              exact hd
          have HD2 := Lib.hid hd2
          clear hd2
          go_wp2_with (go_at_call 108; refine (isDigit_any s[r] _).mono ?_; rintro e w' ⟨rfl, rfl⟩)
          go_roundw
          case rel => exact ⟨r + 1, rfl, by go_num, by omega, by omega, HD2.out⟩
          case measure => simp [intOf]; omega
        · have hd : inB 48 57 s[r] = false := by simpa using hd
          have HN := Lib.hid (numLen_eq HQ.out hqr hr HALL.out (fun _ => hd))
          go_wp2_with (go_at_call 108; refine (isDigit_any s[r] _).mono ?_; rintro e w' ⟨rfl, rfl⟩)
          have HR := Lib.hid (rdNum_of HN.out (by omega))
          have hts : (s.extract p r).size ≤ 1000 := by rw [← lst_len, lst_extract, List.length_take, List.length_drop, lst_len]; omega
          clear HN HALL
          generalize s.extract p r = t at *
          by_cases hok : ∃ v, Lib.atoiAll (lst t) = .ok v
          · obtain ⟨v, hv⟩ := hok
            have hb := Lib.atoiAll_bounds hv
            have HNO := Lib.hid (numOf_ok hv)
            refine (atoi_good t hts v hv _).mono ?_
            rintro e w1 ⟨rfl, hb1⟩
            have hE1 := hE.stays (hb1.mono hE.size)
            have HB := Lib.hid hb
            clear hv hb
            cases hin : inNum v
            · have P : NumPost base b ns cs s p w (.returned (.tuple #[.int .i64 0, .int .i64 0, .bool false])) w1 :=
                .inl ⟨by rw [HR.out, HNO.out, if_neg (fun h => by rw [inNum_true h.1 h.2.1] at hin; cases hin)]; rfl, rfl, hS.kept hb1, Fr.of_below hb1 hE.size⟩
              clear hb1
              go_wp2_with (go_at_call 84; refine (isNumber_any v _).mono ?_; rintro e w' ⟨rfl, rfl⟩)
              go_ret3
              exact P
            · have hin2 : -1000000 ≤ v ∧ v ≤ 1000000 := by simpa [inNum] using hin
              have hin3 := hin2.1
              have hin4 := hin2.2
              clear hin2
              by_cases heq : Lib.itoa v = lst t
              · obtain rfl : t = ⟨(Lib.itoa v).toArray⟩ := lst_inj (by rw [← heq]; simp [lst])
                have hnum : rdNum ((lst s).drop p) = some (v, (lst s).drop r) := by rw [HR.out, HNO.out, if_pos ⟨hin3, hin4, heq⟩]; rfl
                have HNUM := Lib.hid hnum
                clear hnum heq HR HNO
                go_wp2_with (go_at_call 84; refine (isNumber_any v _).mono ?_; rintro e w' ⟨rfl, rfl⟩)
                refine (implNumText v HB.out.1 HB.out.2 _ hE1.pow).mono ?_
                rintro e w2 ⟨rfl, hb2⟩
                have hb12 := hb1.trans (hb2.mono hb1.size)
                have hS2 := hS.kept hb12
                have hB2 : base ≤ w2.heap.size := Nat.le_trans hE.size hb12.size
                clear hb2 hb1
                go_wp2_with fail
                refine (putNode_any ⟨1, ⟨#[]⟩, v, 0⟩ (num_ok hin3 hin4) w2 hS2 hB2 hlen).mono ?_
                rintro e w3 ⟨i, ns', rfl, hi3, hor, hS3, hF3⟩
                have P : NumPost base b ns cs s p w (.returned (.tuple #[.int .i64 (i : Int), .int .i64 (r : Int), .bool true])) w3 :=
                  .inr ⟨v, r, i, ns', HNUM.out, by omega, hr, rfl, hi3, (ext_of_put hor).1, (ext_of_put hor).2, hS3, (Fr.of_below hb12 hE.size).trans hF3⟩
                clear hi3 hor hS3 hF3 hS2 hb12
                go_wp2
                go_ret3
                exact P
              · have P : ∀ w2, Below w1.heap.size w1 w2 → NumPost base b ns cs s p w (.returned (.tuple #[.int .i64 0, .int .i64 0, .bool false])) w2 := fun w2 hb2 =>
                  .inl ⟨by rw [HR.out, HNO.out, if_neg (fun h => heq h.2.2)]; rfl, rfl, (hS.kept hb1).kept hb2, Fr.of_below (hb1.trans (hb2.mono hb1.size)) hE.size⟩
                have hneq : (Lib.itoa v == t.toList) = false := by rw [ByteArray.toList_eq]; exact beq_eq_false_iff_ne.2 heq
                have HP := Lib.hid P
                clear P
                go_wp2_with fail
                refine (isNumber_any v _).mono ?_
                rintro e w' ⟨rfl, rfl⟩
                go_wp2_with fail
                refine (implNumText v HB.out.1 HB.out.2 _ hE1.pow).mono ?_
                rintro e w2 ⟨rfl, hb2⟩
                have P := HP.out w2 hb2
                clear hb2 HP
                go_wp2
                go_ret3
                exact P
          · have P : ∀ w2, Below w.heap.size w w2 → NumPost base b ns cs s p w (.returned (.tuple #[.int .i64 0, .int .i64 0, .bool false])) w2 := fun w2 hb2 =>
              .inl ⟨by rw [HR.out, numOf_bad (fun v hv => hok ⟨v, hv⟩)]; rfl, rfl, hS.kept hb2, Fr.of_below hb2 hE.size⟩
            refine (atoi_bad t hts (fun v hv => hok ⟨v, hv⟩) base _ hE).mono ?_
            rintro e w1 ⟨n, a, rfl, hb1⟩
            have P := P w1 hb1
            clear hb1 hok
            go_wp2
            go_ret3
            exact P
      · have HN := Lib.hid (numLen_eq HQ.out hqr hr HALL.out (fun h => by rw [lst_len] at h; omega))
        have hlt2 : decide ((r : Int) < (s.size : Int)) = false := by simp; omega
        go_wp2_with fail
        have HR := Lib.hid (rdNum_of HN.out (by omega))
        have hts : (s.extract p r).size ≤ 1000 := by rw [← lst_len, lst_extract, List.length_take, List.length_drop, lst_len]; omega
        clear HN HALL
        generalize s.extract p r = t at *
        by_cases hok : ∃ v, Lib.atoiAll (lst t) = .ok v
        · obtain ⟨v, hv⟩ := hok
          have hb := Lib.atoiAll_bounds hv
          have HNO := Lib.hid (numOf_ok hv)
          refine (atoi_good t hts v hv _).mono ?_
          rintro e w1 ⟨rfl, hb1⟩
          have hE1 := hE.stays (hb1.mono hE.size)
          have HB := Lib.hid hb
          clear hv hb
          cases hin : inNum v
          · have P : NumPost base b ns cs s p w (.returned (.tuple #[.int .i64 0, .int .i64 0, .bool false])) w1 :=
              .inl ⟨by rw [HR.out, HNO.out, if_neg (fun h => by rw [inNum_true h.1 h.2.1] at hin; cases hin)]; rfl, rfl, hS.kept hb1, Fr.of_below hb1 hE.size⟩
            clear hb1
            go_wp2_with (go_at_call 84; refine (isNumber_any v _).mono ?_; rintro e w' ⟨rfl, rfl⟩)
            go_ret3
            exact P
          · have hin2 : -1000000 ≤ v ∧ v ≤ 1000000 := by simpa [inNum] using hin
            have hin3 := hin2.1
            have hin4 := hin2.2
            clear hin2
            by_cases heq : Lib.itoa v = lst t
            · obtain rfl : t = ⟨(Lib.itoa v).toArray⟩ := lst_inj (by rw [← heq]; simp [lst])
              have hnum : rdNum ((lst s).drop p) = some (v, (lst s).drop r) := by rw [HR.out, HNO.out, if_pos ⟨hin3, hin4, heq⟩]; rfl
              have HNUM := Lib.hid hnum
              clear hnum heq HR HNO
              go_wp2_with (go_at_call 84; refine (isNumber_any v _).mono ?_; rintro e w' ⟨rfl, rfl⟩)
              refine (implNumText v HB.out.1 HB.out.2 _ hE1.pow).mono ?_
              rintro e w2 ⟨rfl, hb2⟩
              have hb12 := hb1.trans (hb2.mono hb1.size)
              have hS2 := hS.kept hb12
              have hB2 : base ≤ w2.heap.size := Nat.le_trans hE.size hb12.size
              clear hb2 hb1
              go_wp2_with fail
              refine (putNode_any ⟨1, ⟨#[]⟩, v, 0⟩ (num_ok hin3 hin4) w2 hS2 hB2 hlen).mono ?_
              rintro e w3 ⟨i, ns', rfl, hi3, hor, hS3, hF3⟩
              have P : NumPost base b ns cs s p w (.returned (.tuple #[.int .i64 (i : Int), .int .i64 (r : Int), .bool true])) w3 :=
                .inr ⟨v, r, i, ns', HNUM.out, by omega, hr, rfl, hi3, (ext_of_put hor).1, (ext_of_put hor).2, hS3, (Fr.of_below hb12 hE.size).trans hF3⟩
              clear hi3 hor hS3 hF3 hS2 hb12
              go_wp2
              go_ret3
              exact P
            · have P : ∀ w2, Below w1.heap.size w1 w2 → NumPost base b ns cs s p w (.returned (.tuple #[.int .i64 0, .int .i64 0, .bool false])) w2 := fun w2 hb2 =>
                .inl ⟨by rw [HR.out, HNO.out, if_neg (fun h => heq h.2.2)]; rfl, rfl, (hS.kept hb1).kept hb2, Fr.of_below (hb1.trans (hb2.mono hb1.size)) hE.size⟩
              have hneq : (Lib.itoa v == t.toList) = false := by rw [ByteArray.toList_eq]; exact beq_eq_false_iff_ne.2 heq
              have HP := Lib.hid P
              clear P
              go_wp2_with fail
              refine (isNumber_any v _).mono ?_
              rintro e w' ⟨rfl, rfl⟩
              go_wp2_with fail
              refine (implNumText v HB.out.1 HB.out.2 _ hE1.pow).mono ?_
              rintro e w2 ⟨rfl, hb2⟩
              have P := HP.out w2 hb2
              clear hb2 HP
              go_wp2
              go_ret3
              exact P
        · have P : ∀ w2, Below w.heap.size w w2 → NumPost base b ns cs s p w (.returned (.tuple #[.int .i64 0, .int .i64 0, .bool false])) w2 := fun w2 hb2 =>
            .inl ⟨by rw [HR.out, numOf_bad (fun v hv => hok ⟨v, hv⟩)]; rfl, rfl, hS.kept hb2, Fr.of_below hb2 hE.size⟩
          refine (atoi_bad t hts (fun v hv => hok ⟨v, hv⟩) base _ hE).mono ?_
          rintro e w1 ⟨n, a, rfl, hb1⟩
          have P := P w1 hb1
          clear hb1 hok
          go_wp2
          go_ret3
          exact P

end Go.Proofs.YtcohjmbbanjjeaaGreatDoor

namespace Go.Proofs.YtcohjmbbanjjeaaGreatDoor
open Go Go.RowKit Go.Maps Go.WideMaps

/-- Behind the bytes of a kind that stand from p on. -/
def stopAt (P : UInt8 → Bool) (l : List UInt8) (p : Nat) : Nat := p + ((l.drop p).takeWhile P).length

theorem stopAt_eq {P : UInt8 → Bool} {l : List UInt8} {q r : Nat} (hqr : q ≤ r) (hr : r ≤ l.length) (hall : ∀ j (h : j < l.length), q ≤ j → j < r → P l[j] = true) (hstop : ∀ h : r < l.length, P l[r] = false) : stopAt P l q = r := by
  have := (scan_stop P l q r hqr hr hall hstop).1
  unfold stopAt
  rw [this, List.length_take, List.length_drop]
  omega
theorem takeWhile_take (P : UInt8 → Bool) (l : List UInt8) : l.takeWhile P = l.take (l.takeWhile P).length := by
  induction l with
  | nil => rfl
  | cons c l ih =>
    by_cases h : P c = true
    · simp only [List.takeWhile_cons, h, if_true, List.length_cons, List.take_succ_cons]; rw [← ih]
    · simp [h]
theorem dropWhile_drop (P : UInt8 → Bool) (l : List UInt8) : l.dropWhile P = l.drop (l.takeWhile P).length := by
  induction l with
  | nil => rfl
  | cons c l ih =>
    by_cases h : P c = true
    · simp only [List.takeWhile_cons, List.dropWhile_cons, h, if_true, List.length_cons, List.drop_succ_cons]; exact ih
    · simp [h]
theorem stopAt_take (P : UInt8 → Bool) (l : List UInt8) (p : Nat) : (l.drop p).takeWhile P = (l.drop p).take (stopAt P l p - p) := by
  unfold stopAt
  rw [show p + ((l.drop p).takeWhile P).length - p = ((l.drop p).takeWhile P).length from by omega]
  exact takeWhile_take P _
theorem stopAt_drop (P : UInt8 → Bool) (l : List UInt8) (p : Nat) : (l.drop p).dropWhile P = l.drop (stopAt P l p) := by
  unfold stopAt
  rw [dropWhile_drop, List.drop_drop]
theorem stopAt_le (P : UInt8 → Bool) (l : List UInt8) (p : Nat) (h : p ≤ l.length) : p ≤ stopAt P l p ∧ stopAt P l p ≤ l.length := by
  unfold stopAt
  have := congrArg List.length (takeWhile_take P (l.drop p))
  rw [List.length_take, List.length_drop] at this
  omega

def ScanRel (P : UInt8 → Bool) (s : ByteArray) (q : Nat) (w : World) (v : Value) (wr : World) : Prop :=
  ∃ r : Nat, w = wr ∧ v = .int .i64 (r : Int) ∧ q ≤ r ∧ r ≤ s.size ∧ ∀ j (h : j < (lst s).length), q ≤ j → j < r → P (lst s)[j] = true

set_option maxRecDepth 100000 in
set_option maxHeartbeats 1000000 in
theorem nameEnd_any (s : ByteArray) (hs : s.size ≤ 1048576) (p : Nat) (hp : p ≤ s.size) (w : World) :
    Calls Tryz.prog 101 #[.string s, .int .i64 (p : Int)] w fun e w' => e = .returned (.int .i64 (stopAt isNam (lst s) p : Int)) ∧ w = w' := by
  go_enter Tryz.func101, Tryz.ntmps101
  go_wp2
  go_loopw [1] (fun v wr => ScanRel isNam s p w v wr) (fun v _ => (s.size - (intOf v).toNat))
  case atStart => exact ⟨p, rfl, rfl, Nat.le_refl _, hp, fun j h a b => by omega⟩
  case round =>
    obtain ⟨r, rfl, rfl, hqr, hr, hall⟩ := hrel
    have HALL := Lib.hid hall
    clear hall
    by_cases hlt : r < s.size
    · by_cases hd : isNam s[r] = true
      · have hd2 : ∀ j (h : j < (lst s).length), p ≤ j → j < r + 1 → isNam (lst s)[j] = true := fun j h a b => by
          by_cases hj : j < r
          · exact HALL.out j h a hj
          · obtain rfl : j = r := by omega
            exact hd
        have HD2 := Lib.hid hd2
        clear hd2
        go_wp2_with (go_at_call 116; refine (isNameByte_any s[r] _).mono ?_; rintro e w' ⟨rfl, rfl⟩)
        go_roundw
        case rel => exact ⟨r + 1, rfl, by go_num, by omega, by omega, HD2.out⟩
        case measure => simp [intOf]; omega
      · have hd : isNam s[r] = false := by simpa using hd
        have HN := Lib.hid (stopAt_eq hqr (by rw [lst_len]; exact hr) HALL.out (fun _ => hd))
        go_wp2_with (go_at_call 116; refine (isNameByte_any s[r] _).mono ?_; rintro e w' ⟨rfl, rfl⟩)
        go_ret
        rw [HN.out]
        exact ⟨rfl, rfl⟩
    · have HN := Lib.hid (stopAt_eq hqr (by rw [lst_len]; exact hr) HALL.out (fun h => by rw [lst_len] at h; omega))
      have hlt2 : decide ((r : Int) < (s.size : Int)) = false := by simp; omega
      go_wp2
      go_ret
      rw [HN.out]
      exact ⟨rfl, rfl⟩

/-- isBigName. -/
def bigName (l : List UInt8) : Bool :=
  match l with
  | [] => false
  | c :: r => decide ((c :: r).length ≤ 20) && isBig c && (c :: r).all isNam

theorem stopAt_all (l : List UInt8) : (stopAt isNam l 0 == l.length) = l.all isNam := by
  unfold stopAt
  rw [List.drop_zero, Nat.zero_add]
  induction l with
  | nil => rfl
  | cons c l ih =>
    by_cases h : isNam c = true
    · simp only [List.takeWhile_cons, h, if_true, List.length_cons, List.all_cons, Bool.true_and]
      rw [← ih, Bool.eq_iff_iff]; simp
    · have h : isNam c = false := by simpa using h
      simp [h]

set_option maxRecDepth 100000 in
set_option maxHeartbeats 1000000 in
theorem isBigName_any (s : ByteArray) (hs : s.size ≤ 1048576) (w : World) :
    Calls Tryz.prog 82 #[.string s] w fun e w' => e = .returned (.bool (bigName (lst s))) ∧ w = w' := by
  have hl := lst_len s
  by_cases h0 : s.size = 0
  · have e : bigName (lst s) = false := by
      have : lst s = [] := List.length_eq_zero_iff.1 (by omega)
      rw [this]; rfl
    rw [e]
    have h1 : decide ((1 : Int) ≤ (s.size : Int)) = false := by simp; omega
    have h1' : decide (1 ≤ s.size) = false := decide_eq_false (by omega)
    clear h0 hl e
    go_enter Tryz.func82, Tryz.ntmps82
    go_wp2
    go_ret
    exact ⟨rfl, rfl⟩
  · have hp : 0 < s.size := by omega
    have e : bigName (lst s) = (decide (s.size ≤ 20) && isBig s[0] && (lst s).all isNam) := by
      obtain ⟨c, r, hcr⟩ : ∃ c r, lst s = c :: r := List.exists_cons_of_length_pos (by omega)
      have hc : s[0] = c := by
        have h1 : (lst s)[0]? = some s[0] := List.getElem?_eq_getElem (by omega)
        rw [hcr] at h1
        simpa using h1.symm
      rw [hc, hcr, ← hl, hcr]
      rfl
    rw [e]
    have h1 : decide ((1 : Int) ≤ (s.size : Int)) = true := by simp; omega
    have h1' : decide (1 ≤ s.size) = true := by simp; omega
    by_cases h2 : s.size ≤ 20
    · have h2d : decide (s.size ≤ 20) = true := by simpa using h2
      cases h3 : isBig s[0]
      · rw [h2d]
        have h3' : inB 65 90 s[0] = false := h3
        clear e hl
        go_enter Tryz.func82, Tryz.ntmps82
        go_wp2_with (go_at_call 87; refine (isBigLetter_any s[0] _).mono ?_; rintro e w' ⟨rfl, rfl⟩)
        go_ret
        exact ⟨rfl, rfl⟩
      · rw [h2d, ← stopAt_all, hl]
        have h3' : inB 65 90 s[0] = true := h3
        have hE : (((stopAt isNam (lst s) 0 : Nat) : Int) == (s.size : Int)) = (stopAt isNam (lst s) 0 == s.size) := by
          rw [Bool.eq_iff_iff]; simp; omega
        rw [← hE]
        clear e hl hE
        go_enter Tryz.func82, Tryz.ntmps82
        go_wp2_with (first | (go_at_call 87; refine (isBigLetter_any s[0] _).mono ?_; rintro e w' ⟨rfl, rfl⟩) | (go_at_call 101; refine (nameEnd_any s hs 0 (Nat.zero_le _) _).mono ?_; rintro e w' ⟨rfl, rfl⟩))
        go_ret
        exact ⟨rfl, rfl⟩
    · have h2d : decide (s.size ≤ 20) = false := by simpa using h2
      rw [h2d]
      have h2' : decide ((s.size : Int) ≤ 20) = false := by simp; omega
      clear e hl
      go_enter Tryz.func82, Tryz.ntmps82
      go_wp2
      go_ret
      exact ⟨rfl, rfl⟩

/-- What readSymbol answers. -/
def SymPost (base b : Nat) (ns : List Nd) (cs : List Cl) (s : ByteArray) (p : Nat) (w : World) (e : Ending) (w' : World) : Prop :=
  (rdSym ((lst s).drop (p + 1)) = none ∧ e = .returned (.tuple #[.int .i64 0, .int .i64 0, .bool false]) ∧ w = w') ∨
  (∃ (y : List UInt8) (q i : Nat) (ns' : List Nd), rdSym ((lst s).drop (p + 1)) = some (y, (lst s).drop q) ∧ p < q ∧ q ≤ s.size ∧ e = .returned (.tuple #[.int .i64 (i : Int), .int .i64 (q : Int), .bool true]) ∧
    ns'[i]? = some ⟨2, ⟨(34 :: y ++ [34]).toArray⟩, 0, 0⟩ ∧ Ext ns ns' ∧ ns'.length ≤ ns.length + 1 ∧ StoreAt w' base b ns' cs ∧ Fr base w w')

theorem rdSym_end {s : ByteArray} {p r : Nat} (hr : stopAt isSyB (lst s) (p + 1) = r) (h : ¬ r < s.size) : rdSym ((lst s).drop (p + 1)) = none := by
  unfold rdSym
  rw [stopAt_drop, hr, List.drop_eq_nil_of_le (by rw [lst_len]; omega)]
theorem rdSym_mid {s : ByteArray} {p r : Nat} (hr : stopAt isSyB (lst s) (p + 1) = r) (h : r < s.size) :
    rdSym ((lst s).drop (p + 1)) = if s[r] = 34 ∧ r - (p + 1) ≤ 20 then some (((lst s).drop (p + 1)).take (r - (p + 1)), (lst s).drop (r + 1)) else none := by
  have hl := lst_len s
  have hle : p + 1 ≤ r := by rw [← hr]; unfold stopAt; omega
  unfold rdSym
  rw [stopAt_drop, hr, List.drop_eq_getElem_cons (by omega : r < (lst s).length), stopAt_take, hr]
  simp only [List.length_take, List.length_drop]
  rw [show min (r - (p + 1)) ((lst s).length - (p + 1)) = r - (p + 1) from by omega]
  rfl
theorem sym_text {s : ByteArray} {p r : Nat} (hp : p < s.size) (hq : s[p] = 34) (hpr : p + 1 ≤ r) (h : r < s.size) (hr : s[r] = 34) :
    s.extract p (r + 1) = ⟨(34 :: ((lst s).drop (p + 1)).take (r - (p + 1)) ++ [34]).toArray⟩ := by
  have hl := lst_len s
  apply lst_inj
  rw [lst_extract]
  show _ = ((34 :: ((lst s).drop (p + 1)).take (r - (p + 1)) ++ [34]).toArray).toList
  rw [List.drop_eq_getElem_cons (by omega : p < (lst s).length), show r + 1 - p = (r - p) + 1 from by omega, List.take_succ_cons, show (lst s)[p]'(by omega) = 34 from hq, List.cons_append]
  congr 1
  rw [show r - p = (r - (p + 1)) + 1 from by omega, List.take_succ_eq_append_getElem (by rw [List.length_drop]; omega)]
  congr 1
  rw [List.getElem_drop]
  have e : p + 1 + (r - (p + 1)) = r := by omega
  simp only [e]
  rw [show (lst s)[r]'(by omega) = 34 from hr]

theorem sym_ok {t : ByteArray} (h : t.size ≤ 1000) : (⟨2, t, 0, 0⟩ : Nd).Ok :=
  ⟨by show (0 : Int) ≤ 2; omega, by show (2 : Int) ≤ 3; omega, h, by show (-1000000 : Int) ≤ 0; omega, by show (0 : Int) ≤ 1000000; omega, by show (0 : Nat) ≤ 1000000; omega⟩

set_option maxRecDepth 100000 in
set_option maxHeartbeats 1000000 in
theorem readSymbol_any {base b : Nat} {ns : List Nd} {cs : List Cl} (s : ByteArray) (hs : s.size ≤ 200) (p : Nat) (hp : p < s.size) (hq : s[p] = 34) (w : World) (hS : StoreAt w base b ns cs) (hB : base ≤ w.heap.size) (hlen : ns.length ≤ 1000000) :
    Calls Tryz.prog 86 #[.pointer (some ⟨b, 0, none⟩), .string s, .int .i64 (p : Int)] w (SymPost base b ns cs s p w) := by
  have HQ := Lib.hid hq
  clear hq
  go_enter Tryz.func86, Tryz.ntmps86
  go_wp2
  go_loopw [9] (fun v wr => ScanRel isSyB s (p + 1) w v wr) (fun v _ => (s.size - (intOf v).toNat))
  case atStart => exact ⟨p + 1, rfl, by go_num, Nat.le_refl _, hp, fun j h a b => by omega⟩
  case round =>
    obtain ⟨r, rfl, rfl, hqr, hr, hall⟩ := hrel
    have HALL := Lib.hid hall
    clear hall
    by_cases hlt : r < s.size
    · by_cases hd : isSyB s[r] = true
      · have hd2 : ∀ j (h : j < (lst s).length), p + 1 ≤ j → j < r + 1 → isSyB (lst s)[j] = true := fun j h a b => by
          by_cases hj : j < r
          · exact HALL.out j h a hj
          · obtain rfl : j = r := by omega
            exact hd
        have HD2 := Lib.hid hd2
        clear hd2
        go_wp2_with (go_at_call 104; refine (isSymbolByte_any s[r] _).mono ?_; rintro e w' ⟨rfl, rfl⟩)
        go_roundw
        case rel => exact ⟨r + 1, rfl, by go_num, by omega, by omega, HD2.out⟩
        case measure => simp [intOf]; omega
      · have hd : isSyB s[r] = false := by simpa using hd
        have HN := Lib.hid (rdSym_mid (stopAt_eq hqr (by rw [lst_len]; exact hr) HALL.out (fun _ => hd)) hlt)
        by_cases h34 : s[r] = 34
        · have hne : ((s[r].toNat : Int) != 34) = false := by rw [h34]; rfl
          by_cases h20 : r - (p + 1) ≤ 20
          · have htx := sym_text hp HQ.out hqr hlt h34
            rw [if_pos ⟨h34, h20⟩] at HN
            have HT := Lib.hid htx
            have hts : (s.extract p (r + 1)).size ≤ 1000 := by rw [← lst_len, lst_extract, List.length_take, List.length_drop, lst_len]; omega
            have h20' : decide ((20 : Int) < (r : Int) - (p : Int) - 1) = false := by simp; omega
            clear htx h34 HALL
            go_wp2_with (go_at_call 104; refine (isSymbolByte_any s[r] _).mono ?_; rintro e w' ⟨rfl, rfl⟩)
            refine (putNode_any ⟨2, s.extract p (r + 1), 0, 0⟩ (sym_ok hts) w hS hB hlen).mono ?_
            rintro e w3 ⟨i, ns', rfl, hi3, hor, hS3, hF3⟩
            rw [HT.out] at hi3
            have P : SymPost base b ns cs s p w (.returned (.tuple #[.int .i64 (i : Int), .int .i64 ((r : Int) + 1), .bool true])) w3 :=
              .inr ⟨_, r + 1, i, ns', HN.out, by omega, by omega, rfl, hi3, (ext_of_put hor).1, (ext_of_put hor).2, hS3, hF3⟩
            clear hi3 hor hS3 hF3
            go_wp2
            go_ret3
            exact P
          · have P : SymPost base b ns cs s p w (.returned (.tuple #[.int .i64 0, .int .i64 0, .bool false])) w := .inl ⟨by rw [HN.out, if_neg (fun h => h20 h.2)], rfl, rfl⟩
            have h20' : decide ((20 : Int) < (r : Int) - (p : Int) - 1) = true := by simp; omega
            clear h34
            go_wp2_with (go_at_call 104; refine (isSymbolByte_any s[r] _).mono ?_; rintro e w' ⟨rfl, rfl⟩)
            go_ret3
            exact P
        · have P : SymPost base b ns cs s p w (.returned (.tuple #[.int .i64 0, .int .i64 0, .bool false])) w := .inl ⟨by rw [HN.out, if_neg (fun h => h34 h.1)], rfl, rfl⟩
          have hne : ((s[r].toNat : Int) != 34) = true := by
            rw [bne_iff_ne]
            intro h
            apply h34
            apply UInt8.toNat_inj.1
            show s[r].toNat = 34
            omega
          clear h34
          go_wp2_with (go_at_call 104; refine (isSymbolByte_any s[r] _).mono ?_; rintro e w' ⟨rfl, rfl⟩)
          go_ret3
          exact P
    · have P : SymPost base b ns cs s p w (.returned (.tuple #[.int .i64 0, .int .i64 0, .bool false])) w := .inl ⟨rdSym_end (stopAt_eq hqr (by rw [lst_len]; exact hr) HALL.out (fun h => by rw [lst_len] at h; omega)) hlt, rfl, rfl⟩
      have hlt2 : decide ((r : Int) < (s.size : Int)) = false := by simp; omega
      have hge : decide ((s.size : Int) ≤ (r : Int)) = true := by simp; omega
      go_wp2
      go_ret3
      exact P

end Go.Proofs.YtcohjmbbanjjeaaGreatDoor

namespace Go.Proofs.YtcohjmbbanjjeaaGreatDoor
open Go Go.RowKit Go.Maps Go.WideMaps

/-- In the store, place i is the term t. -/
inductive At (ns : List Nd) (cs : List Cl) : Nat → Tm → Prop
  | num (i : Nat) (n : Int) (h : ns[i]? = some ⟨1, ⟨#[]⟩, n, 0⟩) : At ns cs i (.num n)
  | sym (i : Nat) (y : List UInt8) (h : ns[i]? = some ⟨2, ⟨(34 :: y ++ [34]).toArray⟩, 0, 0⟩) : At ns cs i (.sym y)
  | con (i : Nat) (name : ByteArray) (args : List Tm) (l : Nat) (is : List Nat) (h : ns[i]? = some ⟨3, name, 0, l⟩) (hl : ListAt cs l is) (hlen : is.length = args.length)
      (ha : ∀ (k j : Nat) (t : Tm), is[k]? = some j → args[k]? = some t → At ns cs j t) : At ns cs i (.con (lst name) args)

theorem At.mono {ns ns' : List Nd} {cs cs' : List Cl} (hn : Ext ns ns') (hc : Ext cs cs') {i : Nat} {t : Tm} (h : At ns cs i t) : At ns' cs' i t := by
  induction h with
  | num i n h => exact .num i n (hn.get _ _ h)
  | sym i y h => exact .sym i y (hn.get _ _ h)
  | con i name args l is h hl hlen ha ih => exact .con i name args l is (hn.get _ _ h) (hl.mono hc.get) hlen ih
theorem At.lt {ns : List Nd} {cs : List Cl} {i : Nat} {t : Tm} (h : At ns cs i t) : i < ns.length := by
  cases h with
  | num i n h => exact (List.getElem?_eq_some_iff.1 h).1
  | sym i y h => exact (List.getElem?_eq_some_iff.1 h).1
  | con i name args l is h hl hlen ha => exact (List.getElem?_eq_some_iff.1 h).1

/-- The places of a list of terms. -/
def Ats (ns : List Nd) (cs : List Cl) (is : List Nat) (ts : List Tm) : Prop := is.length = ts.length ∧ ∀ (k j : Nat) (t : Tm), is[k]? = some j → ts[k]? = some t → At ns cs j t

theorem Ats.mono {ns ns' : List Nd} {cs cs' : List Cl} (hn : Ext ns ns') (hc : Ext cs cs') {is : List Nat} {ts : List Tm} (h : Ats ns cs is ts) : Ats ns' cs' is ts :=
  ⟨h.1, fun k j t a b => (h.2 k j t a b).mono hn hc⟩
theorem Ats.nil {ns : List Nd} {cs : List Cl} : Ats ns cs [] [] := ⟨rfl, fun k j t a b => by simp at a⟩
theorem Ats.snoc {ns : List Nd} {cs : List Cl} {is : List Nat} {ts : List Tm} {i : Nat} {t : Tm} (h : Ats ns cs is ts) (h1 : At ns cs i t) : Ats ns cs (is ++ [i]) (ts ++ [t]) := by
  refine ⟨by simp [h.1], fun k j u a b => ?_⟩
  by_cases hk : k < is.length
  · rw [List.getElem?_append_left hk] at a
    rw [List.getElem?_append_left (by rw [← h.1]; exact hk)] at b
    exact h.2 k j u a b
  · have hk' : k = is.length := by
      have := (List.getElem?_eq_some_iff.1 a).1
      simp at this; omega
    subst hk'
    rw [h.1] at b
    simp at a b
    rw [← a, ← b]; exact h1
theorem Ats.lt {ns : List Nd} {cs : List Cl} {is : List Nat} {ts : List Tm} (h : Ats ns cs is ts) : ∀ x ∈ is, x < ns.length := by
  intro x hx
  obtain ⟨k, hk, rfl⟩ := List.getElem_of_mem hx
  exact (h.2 k is[k] (ts[k]'(by rw [← h.1]; exact hk)) (List.getElem?_eq_getElem hk) (List.getElem?_eq_getElem _)).lt

/-- What a reader of one term answers: by what 'r' says; C bounds the store. -/
def TermPost (base b : Nat) (ns : List Nd) (cs : List Cl) (s : ByteArray) (C : Nat) (r : Option (Tm × List UInt8)) (p : Nat) (w : World) (e : Ending) (w' : World) : Prop :=
  (r = none ∧ e = .returned (.tuple #[.int .i64 0, .int .i64 0, .bool false]) ∧ ∃ (ns' : List Nd) (cs' : List Cl), Ext ns ns' ∧ Ext cs cs' ∧ ns'.length ≤ C + s.size ∧ cs'.length ≤ C + s.size ∧ StoreAt w' base b ns' cs' ∧ Fr base w w') ∨
  (∃ (t : Tm) (q i : Nat) (ns' : List Nd) (cs' : List Cl), r = some (t, (lst s).drop q) ∧ p < q ∧ q ≤ s.size ∧ e = .returned (.tuple #[.int .i64 (i : Int), .int .i64 (q : Int), .bool true]) ∧
    At ns' cs' i t ∧ Ext ns ns' ∧ Ext cs cs' ∧ ns'.length ≤ C + q ∧ cs'.length ≤ C + q ∧ StoreAt w' base b ns' cs' ∧ Fr base w w')

/-- What readArgs answers. -/
def ArgsPost (base b : Nat) (ns : List Nd) (cs : List Cl) (s : ByteArray) (C : Nat) (r : Option (List Tm × List UInt8)) (p : Nat) (w : World) (e : Ending) (w' : World) : Prop :=
  (r = none ∧ e = .returned (.tuple #[.slice none 0 0, .int .i64 0, .bool false]) ∧ ∃ (ns' : List Nd) (cs' : List Cl), Ext ns ns' ∧ Ext cs cs' ∧ ns'.length ≤ C + s.size ∧ cs'.length ≤ C + s.size ∧ StoreAt w' base b ns' cs' ∧ Fr base w w') ∨
  (∃ (ts : List Tm) (q : Nat) (v : Value) (is : List Nat) (ns' : List Nd) (cs' : List Cl), r = some (ts, (lst s).drop q) ∧ p < q ∧ q ≤ s.size ∧ e = .returned (.tuple #[v, .int .i64 (q : Int), .bool true]) ∧
    w'.ownsRow w.heap.size 3 1 v is.length (intCells is) ∧ Ats ns' cs' is ts ∧ 1 ≤ is.length ∧ is.length + p ≤ q ∧ Ext ns ns' ∧ Ext cs cs' ∧ ns'.length + is.length ≤ C + q ∧ cs'.length + is.length ≤ C + q ∧ StoreAt w' base b ns' cs' ∧ Fr base w w')

def TermSaid (f : Nat) : Prop := ∀ (base b : Nat) (ns : List Nd) (cs : List Cl) (s : ByteArray) (p C : Nat) (w : World), s.size ≤ 200 → p ≤ s.size → StoreAt w base b ns cs → Env base w → ns.length ≤ C + p → cs.length ≤ C + p → C ≤ 800000 → 200 ≤ C + p → 2 * (s.size - p) + 2 ≤ f →
  Calls Tryz.prog 75 #[.pointer (some ⟨b, 0, none⟩), .string s, .int .i64 (p : Int)] w (TermPost base b ns cs s C (rdTerm f ((lst s).drop p)) p w)
def ArgsSaid (f : Nat) : Prop := ∀ (base b : Nat) (ns : List Nd) (cs : List Cl) (s : ByteArray) (p C : Nat) (w : World), s.size ≤ 200 → p ≤ s.size → StoreAt w base b ns cs → Env base w → ns.length ≤ C + p → cs.length ≤ C + p → C ≤ 800000 → 200 ≤ C + p → 2 * (s.size - p) + 3 ≤ f →
  Calls Tryz.prog 106 #[.pointer (some ⟨b, 0, none⟩), .string s, .int .i64 (p : Int)] w (ArgsPost base b ns cs s C (rdArgs f ((lst s).drop p)) p w)

theorem con_ok {t : ByteArray} {l : Nat} (h : t.size ≤ 1000) (hl : l ≤ 1000000) : (⟨3, t, 0, l⟩ : Nd).Ok :=
  ⟨by show (0 : Int) ≤ 3; omega, by show (3 : Int) ≤ 3; omega, h, by show (-1000000 : Int) ≤ 0; omega, by show (0 : Int) ≤ 1000000; omega, hl⟩

theorem bigName_of {c : UInt8} {l : List UInt8} (hc : isBig c = true) : bigName ((c :: l).takeWhile isNam) = decide (((c :: l).takeWhile isNam).length ≤ 20) := by
  have hn : isNam c = true := by simp [isNam, hc]
  rw [List.takeWhile_cons, hn]
  simp only [if_true, bigName, hc, Bool.and_true, List.all_cons, hn, Bool.true_and]
  rw [List.all_takeWhile]
  simp

set_option maxRecDepth 100000 in
set_option maxHeartbeats 2000000 in
theorem readCon_of (f : Nat) (hA : ∀ m, m < f → ArgsSaid m) (base b : Nat) (ns : List Nd) (cs : List Cl) (s : ByteArray) (p C : Nat) (w : World) (hs : s.size ≤ 200) (hp : p < s.size) (hbig : isBig s[p] = true) (hS : StoreAt w base b ns cs) (hE : Env base w)
    (hn : ns.length ≤ C + p) (hc : cs.length ≤ C + p) (hC : C ≤ 800000) (hC2 : 200 ≤ C + p) (hf : 2 * (s.size - p) + 1 ≤ f) :
    Calls Tryz.prog 88 #[.pointer (some ⟨b, 0, none⟩), .string s, .int .i64 (p : Int)] w
      (TermPost base b ns cs s C (rdCon f (((lst s).drop p).takeWhile isNam) (((lst s).drop p).dropWhile isNam)) p w) := by
  have hl := lst_len s
  have hdr : (lst s).drop p = s[p] :: (lst s).drop (p + 1) := List.drop_eq_getElem_cons (by omega)
  have hst := stopAt_le isNam (lst s) p (by omega)
  have hnam := stopAt_take isNam (lst s) p
  have hdrp := stopAt_drop isNam (lst s) p
  have hbn : bigName (lst (s.extract p (stopAt isNam (lst s) p))) = decide (stopAt isNam (lst s) p - p ≤ 20) := by
    rw [lst_extract, ← hnam, hdr, bigName_of hbig, ← hdr]
    congr 1
    rw [hnam, List.length_take, List.length_drop]
    rw [show min (stopAt isNam (lst s) p - p) ((lst s).length - p) = stopAt isNam (lst s) p - p from by omega]
  have hlen : (((lst s).drop p).takeWhile isNam).length = stopAt isNam (lst s) p - p := by
    rw [hnam, List.length_take, List.length_drop]; omega
  have hge : p + 1 ≤ stopAt isNam (lst s) p := by
    have : 1 ≤ (((lst s).drop p).takeWhile isNam).length := by
      rw [hdr, List.takeWhile_cons, show isNam s[p] = true from by simp [isNam, hbig]]; simp
    omega
  have hxn : lst (s.extract p (stopAt isNam (lst s) p)) = ((lst s).drop p).takeWhile isNam := by rw [lst_extract, hnam]
  have hxs : (s.extract p (stopAt isNam (lst s) p)).size ≤ 1000 := by rw [← lst_len, hxn, hlen]; omega
  rw [hdrp]
  generalize hq : stopAt isNam (lst s) p = q at *
  have hql := hst.2
  have HB := Lib.hid hbn
  have HXN := Lib.hid hxn
  have HLEN := Lib.hid hlen
  have HST := Lib.hid hq
  have HA := Lib.hid hA
  clear hbn hxn hlen hnam hdrp hdr hst hq hA
  rw [hl] at hql
  go_enter Tryz.func88, Tryz.ntmps88
  go_wp2_with fail
  refine (nameEnd_any s (by omega) p (by omega) _).mono ?_
  rintro e w' ⟨rfl, rfl⟩
  rw [HST.out]
  go_wp2_with fail
  refine (isBigName_any _ (by omega) _).mono ?_
  rintro e w' ⟨rfl, rfl⟩
  rw [HB.out]
  by_cases h20 : q - p ≤ 20
  · have hd : decide (q - p ≤ 20) = true := decide_eq_true h20
    by_cases hpar : ∃ h : q < s.size, s[q] = 40
    · obtain ⟨hqs, h40⟩ := hpar
      have he40 : ((s[q].toNat : Int) == 40) = true := by rw [h40]; rfl
      obtain ⟨f', rfl⟩ : ∃ f', f = f' + 1 := ⟨f - 1, by omega⟩
      have hrd : rdCon (f' + 1) (((lst s).drop p).takeWhile isNam) ((lst s).drop q) = (rdArgs f' ((lst s).drop (q + 1))).map fun x => (.con (((lst s).drop p).takeWhile isNam) x.1, x.2) := by
        rw [show (lst s).drop q = 40 :: (lst s).drop (q + 1) from by rw [← h40]; exact List.drop_eq_getElem_cons (by omega)]
        unfold rdCon
        rw [if_neg (by rw [HLEN.out]; omega)]
        rfl
      have HRD := Lib.hid hrd
      clear h40 hrd HB HLEN HST
      go_wp2_with fail
      refine (HA.out f' (by omega) base b ns cs s (q + 1) C w hs (by omega) hS hE (by omega) (by omega) hC (by omega) (by omega)).mono ?_
      rintro e w1 (⟨hr, rfl, ns1, cs1, h1, h2, h3, h4, h5, h6⟩ | ⟨ts, q1, v, is, ns1, cs1, hr, hq1, hq2, rfl, hv, hats, hi1, hi2, h1, h2, h3, h4, h5, h6⟩)
      · have P : TermPost base b ns cs s C (rdCon (f' + 1) (((lst s).drop p).takeWhile isNam) ((lst s).drop q)) p w (.returned (.tuple #[.int .i64 0, .int .i64 0, .bool false])) w1 :=
          .inl ⟨by rw [HRD.out, hr]; rfl, rfl, ns1, cs1, h1, h2, h3, h4, h5, h6⟩
        clear hr h1 h2 h3 h4 h5 h6
        go_wp2
        go_ret3
        exact P
      · have HR := Lib.hid hr
        have hB1 : base ≤ w1.heap.size := Nat.le_trans hE.size h6.below.size
        have hxl : ∀ x ∈ is, x ≤ 1000000 := fun x hx => by have := hats.lt x hx; omega
        clear hr
        obtain ⟨av, cv, rfl⟩ := owns_shape hv
        go_wp2_with fail
        refine (putList_any is (.slice av is.length cv) w1 h5 hB1 hv hxl (by omega)).mono ?_
        rintro e w2 ⟨L, cs2, rfl, hL, hE2, hc2, hS2, hF2⟩
        have hB2 : base ≤ w2.heap.size := Nat.le_trans hB1 hF2.below.size
        have hLl := hL.le
        clear h5 hv
        go_wp2_with fail
        refine (putNode_any ⟨3, s.extract p q, 0, L⟩ (con_ok hxs (by omega)) w2 hS2 hB2 (by omega)).mono ?_
        rintro e w3 ⟨i, ns3, rfl, hi3, hor, hS3, hF3⟩
        have hx3 := ext_of_put hor
        have hats3 := hats.mono hx3.1 hE2
        have P : TermPost base b ns cs s C (rdCon (f' + 1) (((lst s).drop p).takeWhile isNam) ((lst s).drop q)) p w (.returned (.tuple #[.int .i64 (i : Int), .int .i64 (q1 : Int), .bool true])) w3 :=
          .inr ⟨.con (((lst s).drop p).takeWhile isNam) ts, q1, i, ns3, cs2, by rw [HRD.out, HR.out]; rfl, by omega, hq2, rfl, by rw [← HXN.out]; exact .con i _ ts L is hi3 hL hats3.1 hats3.2, h1.trans hx3.1, h2.trans hE2, by omega, by omega, hS3, (h6.trans hF2).trans hF3⟩
        clear hi3 hor hS3 hF3 hx3 hats3 hats hL hE2 hS2 hF2 h1 h2 h6 hE HR HXN
        go_wp2
        go_ret3
        exact P
    · have hrd : rdCon f (((lst s).drop p).takeWhile isNam) ((lst s).drop q) = some (.con (((lst s).drop p).takeWhile isNam) [], (lst s).drop q) := by
        unfold rdCon
        rw [if_neg (by rw [HLEN.out]; omega)]
        by_cases hqs : q < s.size
        · rw [List.drop_eq_getElem_cons (by omega : q < (lst s).length)]
          exact if_neg (fun h => hpar ⟨hqs, h⟩)
        · rw [List.drop_eq_nil_of_le (by omega)]
      have HRD := Lib.hid hrd
      have htest : ∀ h : q < s.size, ((s[q].toNat : Int) == 40) = false := fun h => beq_eq_false_iff_ne.2 (fun h' => hpar ⟨h, by
        apply UInt8.toNat_inj.1
        show s[q].toNat = 40
        omega⟩)
      have HT := Lib.hid htest
      clear hrd hpar HB HLEN HST HA htest
      by_cases hqs : q < s.size
      · have h40 := HT.out hqs
        clear HT
        go_wp2_with fail
        refine (putList_none (ns := ns) (cs := cs) none 0 w hS).mono ?_
        rintro e w2 ⟨rfl, rfl⟩
        go_wp2_with fail
        refine (putNode_any ⟨3, s.extract p q, 0, 0⟩ (con_ok hxs (by omega)) w hS hE.size (by omega)).mono ?_
        rintro e w3 ⟨i, ns3, rfl, hi3, hor, hS3, hF3⟩
        have hx3 := ext_of_put hor
        have P : TermPost base b ns cs s C (rdCon f (((lst s).drop p).takeWhile isNam) ((lst s).drop q)) p w (.returned (.tuple #[.int .i64 (i : Int), .int .i64 (q : Int), .bool true])) w3 :=
          .inr ⟨.con (((lst s).drop p).takeWhile isNam) [], q, i, ns3, cs, by rw [HRD.out], by omega, hql, rfl, by rw [← HXN.out]; exact .con i _ [] 0 [] hi3 rfl rfl (fun k j t a b => by simp at a), hx3.1, Ext.refl _, by omega, by omega, hS3, hF3⟩
        clear hi3 hor hS3 hF3 hx3 hE HXN HRD hS
        go_wp2
        go_ret3
        exact P
      · have hqs2 : decide ((q : Int) < (s.size : Int)) = false := by simp; omega
        clear HT
        go_wp2_with fail
        refine (putList_none (ns := ns) (cs := cs) none 0 w hS).mono ?_
        rintro e w2 ⟨rfl, rfl⟩
        go_wp2_with fail
        refine (putNode_any ⟨3, s.extract p q, 0, 0⟩ (con_ok hxs (by omega)) w hS hE.size (by omega)).mono ?_
        rintro e w3 ⟨i, ns3, rfl, hi3, hor, hS3, hF3⟩
        have hx3 := ext_of_put hor
        have P : TermPost base b ns cs s C (rdCon f (((lst s).drop p).takeWhile isNam) ((lst s).drop q)) p w (.returned (.tuple #[.int .i64 (i : Int), .int .i64 (q : Int), .bool true])) w3 :=
          .inr ⟨.con (((lst s).drop p).takeWhile isNam) [], q, i, ns3, cs, by rw [HRD.out], by omega, hql, rfl, by rw [← HXN.out]; exact .con i _ [] 0 [] hi3 rfl rfl (fun k j t a b => by simp at a), hx3.1, Ext.refl _, by omega, by omega, hS3, hF3⟩
        clear hi3 hor hS3 hF3 hx3 hE HXN HRD hS
        go_wp2
        go_ret3
        exact P
  · have hd : decide (q - p ≤ 20) = false := decide_eq_false h20
    have P : TermPost base b ns cs s C (rdCon f (((lst s).drop p).takeWhile isNam) ((lst s).drop q)) p w (.returned (.tuple #[.int .i64 0, .int .i64 0, .bool false])) w :=
      .inl ⟨by unfold rdCon; rw [if_pos (by rw [HLEN.out]; omega)], rfl, ns, cs, Ext.refl _, Ext.refl _, by omega, by omega, hS, Fr.refl _ _⟩
    go_wp2
    go_ret3
    exact P

theorem itoa_ne_nil (n : Int) : Lib.itoa n ≠ [] := by
  rcases (show n < 0 ∨ n = 0 ∨ 0 < n from by omega) with h | rfl | h
  · rw [itoa_dig_neg h]; simp
  · rw [itoa_zero]; simp
  · rw [itoa_dig_pos h, dig_pos (by omega)]; simp

theorem rdNum_short {l r : List UInt8} {n : Int} (h : rdNum l = some (n, r)) : r.length < l.length := by
  unfold rdNum at h
  rw [Option.map_eq_some_iff] at h
  obtain ⟨m, hm, he⟩ := h
  have h1 := (numOf_some hm).2.2.1
  have h2 : r = l.drop (numLen l) := by simpa using (congrArg Prod.snd he).symm
  have h3 : 1 ≤ (l.take (numLen l)).length := by
    rw [← h1]
    have := itoa_ne_nil m
    cases hx : Lib.itoa m with
    | nil => exact absurd hx this
    | cons _ _ => simp
  rw [List.length_take] at h3
  rw [h2, List.length_drop]
  omega

set_option maxRecDepth 100000 in
set_option maxHeartbeats 2000000 in
theorem readTerm_of (f : Nat) (hA : ∀ m, m < f → ArgsSaid m) : TermSaid (f + 1) := by
  intro base b ns cs s p C w hs hp hS hE hn hc hC hC2 hf
  have hl := lst_len s
  by_cases hlt : p < s.size
  · have hdr : (lst s).drop p = s[p] :: (lst s).drop (p + 1) := List.drop_eq_getElem_cons (by omega)
    have hge : decide ((s.size : Int) ≤ (p : Int)) = false := by simp; omega
    by_cases h34 : s[p] = 34
    · have hrd : rdTerm (f + 1) ((lst s).drop p) = (rdSym ((lst s).drop (p + 1))).map fun x => (.sym x.1, x.2) := by
        rw [hdr, rdTerm, if_pos h34]
      have he34 : ((s[p].toNat : Int) == 34) = true := by rw [h34]; rfl
      have HRD := Lib.hid hrd
      have H34 := Lib.hid h34
      clear hrd hdr h34 hA
      go_enter Tryz.func75, Tryz.ntmps75
      go_wp2_with fail
      refine (readSymbol_any s hs p hlt H34.out w hS hE.size (by omega)).mono ?_
      rintro e w1 (⟨hr, rfl, rfl⟩ | ⟨y, q, i, ns', hr, h1, h2, rfl, h3, h4, h5, h6, h7⟩)
      · have P : TermPost base b ns cs s C (rdTerm (f + 1) ((lst s).drop p)) p w (.returned (.tuple #[.int .i64 0, .int .i64 0, .bool false])) w :=
          .inl ⟨by rw [HRD.out, hr]; rfl, rfl, ns, cs, Ext.refl _, Ext.refl _, by omega, by omega, hS, Fr.refl _ _⟩
        clear hr
        go_wp2
        go_ret3
        exact P
      · have hpq : p < q := h1
        have P : TermPost base b ns cs s C (rdTerm (f + 1) ((lst s).drop p)) p w (.returned (.tuple #[.int .i64 (i : Int), .int .i64 (q : Int), .bool true])) w1 :=
          .inr ⟨.sym y, q, i, ns', cs, by rw [HRD.out, hr]; rfl, hpq, h2, rfl, .sym i y h3, h4, Ext.refl _, by omega, by omega, h6, h7⟩
        clear hr h1 h2 h3 h4 h5 h6 h7
        go_wp2
        go_ret3
        exact P
    · have he34 : ((s[p].toNat : Int) == 34) = false := beq_eq_false_iff_ne.2 (fun h => h34 (by
        apply UInt8.toNat_inj.1
        show s[p].toNat = 34
        omega))
      cases hbig : isBig s[p]
      · have hrd : rdTerm (f + 1) ((lst s).drop p) = (rdNum ((lst s).drop p)).map fun x => (.num x.1, x.2) := by
          rw [hdr, rdTerm, if_neg h34, hbig]
          simp
        have hb2 : inB 65 90 s[p] = false := hbig
        have HRD := Lib.hid hrd
        clear hrd hdr h34 hA
        go_enter Tryz.func75, Tryz.ntmps75
        go_wp2_with fail
        refine (isBigLetter_any s[p] _).mono ?_
        rintro e w' ⟨rfl, rfl⟩
        go_wp2_with fail
        refine (readNumber_any s hs p hlt w hS hE (by omega)).mono ?_
        rintro e w1 (⟨hr, rfl, h6, h7⟩ | ⟨n, q, i, ns', hr, h1, h2, rfl, h3, h4, h5, h6, h7⟩)
        · have P : TermPost base b ns cs s C (rdTerm (f + 1) ((lst s).drop p)) p w (.returned (.tuple #[.int .i64 0, .int .i64 0, .bool false])) w1 :=
            .inl ⟨by rw [HRD.out, hr]; rfl, rfl, ns, cs, Ext.refl _, Ext.refl _, by omega, by omega, h6, h7⟩
          clear hr h6 h7
          go_wp2
          go_ret3
          exact P
        · have hpq : p < q := by
            have h8 := rdNum_short hr
            rw [List.length_drop, List.length_drop] at h8
            omega
          have P : TermPost base b ns cs s C (rdTerm (f + 1) ((lst s).drop p)) p w (.returned (.tuple #[.int .i64 (i : Int), .int .i64 (q : Int), .bool true])) w1 :=
            .inr ⟨.num n, q, i, ns', cs, by rw [HRD.out, hr]; rfl, hpq, h2, rfl, .num i n h3, h4, Ext.refl _, by omega, by omega, h6, h7⟩
          clear hr h1 h2 h3 h4 h5 h6 h7
          go_wp2
          go_ret3
          exact P
      · have hrd : rdTerm (f + 1) ((lst s).drop p) = rdCon f (((lst s).drop p).takeWhile isNam) (((lst s).drop p).dropWhile isNam) := by
          rw [hdr, rdTerm, if_neg h34, hbig]
          simp
        have hb2 : inB 65 90 s[p] = true := hbig
        rw [hrd]
        have hcon := readCon_of f hA base b ns cs s p C w hs hlt hbig hS hE hn hc hC hC2 (by omega)
        have HCON := Lib.hid hcon
        clear hrd hdr h34 hA hcon
        go_enter Tryz.func75, Tryz.ntmps75
        go_wp2_with fail
        refine (isBigLetter_any s[p] _).mono ?_
        rintro e w' ⟨rfl, rfl⟩
        go_wp2_with fail
        refine HCON.out.mono ?_
        intro e w1 P
        have hsh : ∃ (x y : Int) (z : Bool), e = .returned (.tuple #[.int .i64 x, .int .i64 y, .bool z]) := by
          rcases P with ⟨_, rfl, _⟩ | ⟨_, _, _, _, _, _, _, _, rfl, _⟩
          · exact ⟨_, _, _, rfl⟩
          · exact ⟨_, _, _, rfl⟩
        obtain ⟨x, y, z, rfl⟩ := hsh
        have HP := Lib.hid P
        clear P HCON
        go_wp2
        go_ret3
        exact HP.out
  · have P : TermPost base b ns cs s C (rdTerm (f + 1) ((lst s).drop p)) p w (.returned (.tuple #[.int .i64 0, .int .i64 0, .bool false])) w :=
      .inl ⟨by rw [List.drop_eq_nil_of_le (by omega)]; rfl, rfl, ns, cs, Ext.refl _, Ext.refl _, by omega, by omega, hS, Fr.refl _ _⟩
    have hge : decide ((s.size : Int) ≤ (p : Int)) = true := by simp; omega
    clear hA
    go_enter Tryz.func75, Tryz.ntmps75
    go_wp2
    go_ret3
    exact P

/-- A row of the caller's own grows: the store stays. -/
theorem StoreAt.grown {w w' : World} {base b base' : Nat} {ns : List Nd} {cs : List Cl} {v : Value} {n : Nat} {xs : List Value} {O : Obj} (h : StoreAt w base b ns cs) (ho : w.ownsRow base' 3 1 v n xs) (hg : (w.alloc O).grownBy w' v.ownBlock) : StoreAt w' base b ns cs := by
  obtain ⟨vn, vc, mn, mc, Dn, Dc, a1, a2, a3, a4, a5, a6, a7, a8, a9, a10, a11⟩ := h.lies
  have ho' := ho.alloc O
  obtain ⟨es, c, hm⟩ := map_block (a8.alloc O)
  obtain ⟨es2, c2, hm2⟩ := map_block (a10.alloc O)
  exact ⟨vn, vc, mn, mc, Dn, Dc, a1, a2, a3, a4, other_block ho' hg ((heap_alloc_old w O (lt_of_block a5)).trans a5) (by intro cur h; simp at h),
    (a6.alloc O).kept hg (own_other ho' (a6.alloc O) (by decide)), (a7.alloc O).kept hg (own_other ho' (a7.alloc O) (by decide)),
    (a8.alloc O).kept hg (Ne.symm (own_apart ho' hm (fun cur h => by cases h))), a9, (a10.alloc O).kept hg (Ne.symm (own_apart ho' hm2 (fun cur h => by cases h))), a11⟩
theorem Fr.grown {w w1 w' : World} {base : Nat} {O : Obj} {row : Option Nat} (h : Fr base w w1) (hg : (w1.alloc O).grownBy w' row) (hr : ∀ k, row = some k → w.heap.size ≤ k) (hB : base ≤ w.heap.size) : Fr base w w' := by
  have hB1 : w.heap.size ≤ w1.heap.size := h.below.size
  refine ⟨(h.below.alloc (by omega) O).grown hg (by simp; omega) (fun k hk => Nat.le_trans hB (hr k hk)), fun k cs t hk h1 h2 h3 => ?_⟩
  have hk1 := h.rows k cs t hk h1 h2 h3
  rw [hg.block k (by have := lt_of_block hk1; simp; omega) (fun e => by have := hr k e.symm; have := lt_of_block hk; omega)]
  exact (heap_alloc_old w1 O (lt_of_block hk1)).trans hk1

theorem rdArgs_none {k : Nat} {l : List UInt8} (h : rdTerm k l = none) : rdArgs (k + 1) l = none := by rw [rdArgs, h]
theorem rdArgs_end {k : Nat} {l : List UInt8} {t : Tm} (h : rdTerm k l = some (t, [])) : rdArgs (k + 1) l = none := by rw [rdArgs, h]
theorem rdArgs_cons {k : Nat} {l r : List UInt8} {t : Tm} {c : UInt8} (h : rdTerm k l = some (t, c :: r)) : rdArgs (k + 1) l = if c = 41 then some ([t], r) else if c = 44 then (rdArgs k r).map (fun x => (t :: x.1, x.2)) else none := by rw [rdArgs, h]

/-- What the loop of readArgs holds. -/
def ArgRel (base b : Nat) (ns : List Nd) (cs : List Cl) (s : ByteArray) (C f p : Nat) (w : World) (k : Nat) (v2 v9 : Value) (wr : World) : Prop :=
  ∃ (p' : Nat) (is : List Nat) (ts : List Tm) (ns' : List Nd) (cs' : List Cl), v2 = .int .i64 (p' : Int) ∧ p ≤ p' ∧ p' ≤ s.size ∧ 2 * (s.size - p') + 3 ≤ k ∧ k ≤ f ∧
    rdArgs f ((lst s).drop p) = (rdArgs k ((lst s).drop p')).map (fun x => (ts ++ x.1, x.2)) ∧ wr.ownsRow w.heap.size 3 1 v9 is.length (intCells is) ∧ Ats ns' cs' is ts ∧ is.length + p ≤ p' ∧ Ext ns ns' ∧ Ext cs cs' ∧
    ns'.length + is.length ≤ C + p' ∧ cs'.length + is.length ≤ C + p' ∧ StoreAt wr base b ns' cs' ∧ Fr base w wr ∧ Env base wr

set_option maxRecDepth 100000 in
set_option maxHeartbeats 4000000 in
theorem readArgs_of (f : Nat) (hT : ∀ m, m < f → TermSaid m) : ArgsSaid f := by
  intro base b ns cs s p C w hs hp hS hE hn hc hC hC2 hf
  have hl := lst_len s
  have HT := Lib.hid hT
  clear hT
  obtain ⟨i0, hi, hz0, hz1, hz2⟩ := info_parts info3
  go_enter Tryz.func106, Tryz.ntmps106
  go_wp2
  go_loopg [2, 9] f (fun k v2 v9 wr => ArgRel base b ns cs s C f p w k v2 v9 wr)
  case atStart => exact ⟨p, [], [], ns, cs, rfl, Nat.le_refl _, hp, hf, Nat.le_refl _, by simp, World.ownsRow_nil _ _ _ _, Ats.nil, by simp, Ext.refl _, Ext.refl _, by simpa using hn, by simpa using hc, hS, Fr.refl _ _, hE⟩
  case round =>
    obtain ⟨p', is, ts, ns1, cs1, rfl, g1, g2, g3, g4, hrd, hown, hats, g5, e1, e2, g6, g7, hS1, hF1, hE1⟩ := hrel
    obtain ⟨k', rfl⟩ : ∃ k', gk = k' + 1 := ⟨gk - 1, by omega⟩
    have HRD := Lib.hid hrd
    clear hrd
    obtain ⟨av, cv, rfl⟩ := owns_shape hown
    go_wp2_with fail
    refine (HT.out k' (by omega) base b ns1 cs1 s p' (C - is.length) wr hs g2 hS1 hE1 (by omega) (by omega) (by omega) (by omega) (by omega)).mono ?_
    rintro e w1 (⟨hr, rfl, ns2, cs2, h1, h2, h3, h4, h5, h6⟩ | ⟨t, q, i, ns2, cs2, hr, hq1, hq2, rfl, hat, h1, h2, h3, h4, h5, h6⟩)
    · have P : ArgsPost base b ns cs s C (rdArgs f ((lst s).drop p)) p w (.returned (.tuple #[.slice none 0 0, .int .i64 0, .bool false])) w1 :=
        .inl ⟨by rw [HRD.out, rdArgs_none hr]; rfl, rfl, ns2, cs2, e1.trans h1, e2.trans h2, by omega, by omega, h5, hF1.trans h6⟩
      clear hr h1 h2 h3 h4 h5 h6
      go_wp2
      go_ret3
      exact P
    · have HR := Lib.hid hr
      have hatS := (hats.mono h1 h2).snoc hat
      have hown1 := h6.ints (by decide) (by decide) (by decide) hown
      have hF2 := hF1.trans h6
      have hsz1 : w.heap.size ≤ w1.heap.size := hF2.below.size
      have hE2 := hE1.stays h6.below
      clear hr hats hown hF1 h6 hat hE1 hS1
      by_cases hqs : q < s.size
      · have hge : decide ((s.size : Int) ≤ (q : Int)) = false := by simp; omega
        rw [show (lst s).drop q = s[q] :: (lst s).drop (q + 1) from List.drop_eq_getElem_cons (by omega)] at HR
        have HRK := Lib.hid (rdArgs_cons HR.out)
        clear HR
        have hol := hown1.alloc (.cells #[.int .i64 (i : Int)] 3)
        have hnb : ∀ j u, [Value.int .i64 (i : Int)][j]? = some u → (w1.alloc (.cells #[.int .i64 (i : Int)] 3)).cell? ((⟨w1.heap.size, 0, none⟩ : Addr).add j) = some u := World.news_of_block (cs := #[.int .i64 (i : Int)]) (t := 3) (fr := (0, 0)) (heap_alloc_new w1 _)
        have HOL := Lib.hid hol
        have HNB := Lib.hid hnb
        clear hol hnb
        have fin : ∀ (g cap : Nat) (w2 : World), w2.ownsRow w.heap.size 3 1 (.slice (some ⟨g, 0, none⟩) (is.length + 1) cap) (is.length + 1) (intCells is ++ [.int .i64 (i : Int)]) → (w1.alloc (.cells #[.int .i64 (i : Int)] 3)).grownBy w2 (Value.slice av is.length cv).ownBlock →
            StoreAt w2 base b ns2 cs2 ∧ Fr base w w2 ∧ Env base w2 ∧ w2.ownsRow w.heap.size 3 1 (.slice (some ⟨g, 0, none⟩) (is.length + 1) cap) (is ++ [i]).length (intCells (is ++ [i])) := fun g cap w2 ho hg =>
          have hF3 := hF2.grown hg (own_ge hown1) hE.size
          ⟨h5.grown hown1 hg, hF3, hE.stays hF3.below, by rw [List.length_append]; simp only [intCells, List.map_append]; exact ho⟩
        have FIN := Lib.hid fin
        clear fin
        by_cases h41 : s[q] = 41
        · rw [if_pos h41] at HRK
          have he41 : ((s[q].toNat : Int) == 41) = true := by rw [h41]; rfl
          clear h41
          go_wp2_with (at_builtin; refine wpList_append_lies _ rfl (.tmp 29) (.tmp 31) 23 rfl w.heap.size 3 i0 (.int .i64 0) 1 8 Tryz.underlying23 hi hz0 hz1 hz2 rfl (by decide) (.slice av is.length cv) is.length (intCells is) rfl HOL.out ⟨w1.heap.size, 0, none⟩ 1 1 [.int .i64 (i : Int)] rfl rfl HNB.out (by simp [Value.oneCell']) (by omega) (by unfold maxLen; omega) (by omega) (by simp; omega) _ rfl ?_)
          intro g cap w2 ho2 hg2 _ _
          obtain ⟨k1, k2, k3, k4⟩ := FIN.out g cap w2 ho2 hg2
          have P : ArgsPost base b ns cs s C (rdArgs f ((lst s).drop p)) p w (.returned (.tuple #[.slice (some ⟨g, 0, none⟩) (is.length + 1) cap, .int .i64 ((q : Int) + 1), .bool true])) w2 :=
            .inr ⟨ts ++ [t], q + 1, _, is ++ [i], ns2, cs2, by rw [HRD.out, HRK.out]; rfl, by omega, by omega, rfl, k4, hatS, by simp, by simp; omega, e1.trans h1, e2.trans h2, by simp; omega, by simp; omega, k1, k2⟩
          clear ho2 hg2 k1 k2 k3 k4 FIN HOL HNB hatS hown1 hF2 hE2
          go_wp2
          go_ret3
          exact P
        · have he41 : ((s[q].toNat : Int) == 41) = false := beq_eq_false_iff_ne.2 (fun h => h41 (by
            apply UInt8.toNat_inj.1
            show s[q].toNat = 41
            omega))
          rw [if_neg h41] at HRK
          clear h41
          by_cases h44 : s[q] = 44
          · rw [if_pos h44] at HRK
            have he44 : ((s[q].toNat : Int) == 44) = true := by rw [h44]; rfl
            clear h44
            go_wp2_with (at_builtin; refine wpList_append_lies _ rfl (.tmp 29) (.tmp 31) 23 rfl w.heap.size 3 i0 (.int .i64 0) 1 8 Tryz.underlying23 hi hz0 hz1 hz2 rfl (by decide) (.slice av is.length cv) is.length (intCells is) rfl HOL.out ⟨w1.heap.size, 0, none⟩ 1 1 [.int .i64 (i : Int)] rfl rfl HNB.out (by simp [Value.oneCell']) (by omega) (by unfold maxLen; omega) (by omega) (by simp; omega) _ rfl ?_)
            intro g cap w2 ho2 hg2 _ _
            obtain ⟨k1, k2, k3, k4⟩ := FIN.out g cap w2 ho2 hg2
            have R : ArgRel base b ns cs s C f p w k' (.int .i64 ((q : Int) + 1)) (.slice (some ⟨g, 0, none⟩) (is.length + 1) cap) w2 :=
              ⟨q + 1, is ++ [i], ts ++ [t], ns2, cs2, rfl, by omega, by omega, by omega, by omega, by
                rw [HRD.out, HRK.out, Option.map_map]
                congr 1
                funext x
                simp, k4, hatS, by simp; omega, e1.trans h1, e2.trans h2, by simp; omega, by simp; omega, k1, k2, k3⟩
            clear ho2 hg2 k1 k2 k3 k4 FIN HOL HNB hatS hown1 hF2 hE2
            go_wp2
            go_roundg k'
            case measure => omega
            case rel => exact R
          · rw [if_neg h44] at HRK
            have he44 : ((s[q].toNat : Int) == 44) = false := beq_eq_false_iff_ne.2 (fun h => h44 (by
              apply UInt8.toNat_inj.1
              show s[q].toNat = 44
              omega))
            clear h44
            go_wp2_with (at_builtin; refine wpList_append_lies _ rfl (.tmp 29) (.tmp 31) 23 rfl w.heap.size 3 i0 (.int .i64 0) 1 8 Tryz.underlying23 hi hz0 hz1 hz2 rfl (by decide) (.slice av is.length cv) is.length (intCells is) rfl HOL.out ⟨w1.heap.size, 0, none⟩ 1 1 [.int .i64 (i : Int)] rfl rfl HNB.out (by simp [Value.oneCell']) (by omega) (by unfold maxLen; omega) (by omega) (by simp; omega) _ rfl ?_)
            intro g cap w2 ho2 hg2 _ _
            obtain ⟨k1, k2, k3, k4⟩ := FIN.out g cap w2 ho2 hg2
            have P : ArgsPost base b ns cs s C (rdArgs f ((lst s).drop p)) p w (.returned (.tuple #[.slice none 0 0, .int .i64 0, .bool false])) w2 :=
              .inl ⟨by rw [HRD.out, HRK.out]; rfl, rfl, ns2, cs2, e1.trans h1, e2.trans h2, by omega, by omega, k1, k2⟩
            clear ho2 hg2 k1 k2 k3 k4 FIN HOL HNB hatS hown1 hF2 hE2
            go_wp2
            go_ret3
            exact P
      · have P : ArgsPost base b ns cs s C (rdArgs f ((lst s).drop p)) p w (.returned (.tuple #[.slice none 0 0, .int .i64 0, .bool false])) w1 :=
          .inl ⟨by rw [HRD.out, rdArgs_end (t := t) (by rw [HR.out, List.drop_eq_nil_of_le (by omega)])]; rfl, rfl, ns2, cs2, e1.trans h1, e2.trans h2, by omega, by omega, h5, hF2⟩
        have hge : decide ((s.size : Int) ≤ (q : Int)) = true := by simp; omega
        clear h1 h2 h3 h4 h5 hatS hown1 hF2
        go_wp2
        go_ret3
        exact P

end Go.Proofs.YtcohjmbbanjjeaaGreatDoor

namespace Go.Proofs.YtcohjmbbanjjeaaGreatDoor
open Go Go.RowKit Go.Maps Go.WideMaps

theorem said_all (f : Nat) : TermSaid f ∧ ArgsSaid f := by
  induction f using Nat.strongRecOn with
  | ind f ih =>
    refine ⟨?_, readArgs_of f fun m hm => (ih m hm).1⟩
    cases f with
    | zero => intro base b ns cs s p C w _ _ _ _ _ _ _ _ hf; omega
    | succ f => exact readTerm_of f fun m hm => (ih m (by omega)).2

/-- The term that a text is, as impl reads it. -/
def rdAll (l : List UInt8) : Option Tm :=
  if 200 < l.length then none
  else match rdTerm 500 l with
    | none => none
    | some x => if x.2 = [] then some x.1 else none

/-- What read answers. -/
def ReadPost (base b : Nat) (ns : List Nd) (cs : List Cl) (s : ByteArray) (C : Nat) (w : World) (e : Ending) (w' : World) : Prop :=
  ∃ (ns' : List Nd) (cs' : List Cl), Ext ns ns' ∧ Ext cs cs' ∧ ns'.length ≤ C + 200 ∧ cs'.length ≤ C + 200 ∧ StoreAt w' base b ns' cs' ∧ Fr base w w' ∧
    ((rdAll (lst s) = none ∧ e = .returned (.tuple #[.int .i64 0, .bool false])) ∨ (∃ (t : Tm) (i : Nat), rdAll (lst s) = some t ∧ At ns' cs' i t ∧ e = .returned (.tuple #[.int .i64 (i : Int), .bool true])))

set_option maxRecDepth 100000 in
set_option maxHeartbeats 1000000 in
theorem read_any (base b : Nat) (ns : List Nd) (cs : List Cl) (s : ByteArray) (hlim : s.size ≤ 140737488351232) (C : Nat) (w : World) (hS : StoreAt w base b ns cs) (hE : Env base w) (hn : ns.length ≤ C) (hc : cs.length ≤ C) (hC : 200 ≤ C) (hC2 : C ≤ 800000) :
    Calls Tryz.prog 57 #[.pointer (some ⟨b, 0, none⟩), .string s] w (ReadPost base b ns cs s C w) := by
  have hl := lst_len s
  by_cases hs : s.size ≤ 200
  · have hgt : decide ((200 : Int) < (s.size : Int)) = false := by simp; omega
    have hgt2 : decide (200 < s.size) = false := by simp; omega
    have hT := (said_all 500).1 base b ns cs s 0 C w hs (Nat.zero_le _) hS hE (by omega) (by omega) hC2 (by omega) (by omega)
    have hr : rdAll (lst s) = (match rdTerm 500 (lst s) with
      | none => none
      | some x => if x.2 = [] then some x.1 else none) := by unfold rdAll; rw [if_neg (by omega)]
    have HT := Lib.hid hT
    have HR := Lib.hid hr
    clear hr hT
    rw [List.drop_zero] at HT
    go_enter Tryz.func57, Tryz.ntmps57
    go_wp2_with fail
    refine HT.out.mono ?_
    rintro e w1 (⟨hr, rfl, ns2, cs2, h1, h2, h3, h4, h5, h6⟩ | ⟨t, q, i, ns2, cs2, hr, hq1, hq2, rfl, hat, h1, h2, h3, h4, h5, h6⟩)
    · have P : ReadPost base b ns cs s C w (.returned (.tuple #[.int .i64 0, .bool false])) w1 := ⟨ns2, cs2, h1, h2, by omega, by omega, h5, h6, .inl ⟨by rw [HR.out, hr], rfl⟩⟩
      clear hr h1 h2 h3 h4 h5 h6 HT
      go_wp2
      go_ret2
      exact P
    · rw [hr] at HR
      by_cases hq : q = s.size
      · have hne : ((q : Int) != (s.size : Int)) = false := by simp [hq]
        have P : ReadPost base b ns cs s C w (.returned (.tuple #[.int .i64 (i : Int), .bool true])) w1 :=
          ⟨ns2, cs2, h1, h2, by omega, by omega, h5, h6, .inr ⟨t, i, by rw [HR.out]; simp only; rw [if_pos (List.drop_eq_nil_of_le (by omega))], hat, rfl⟩⟩
        clear hr h1 h2 h3 h4 h5 h6 HT HR hat
        obtain rfl := hq
        go_wp2
        go_ret2
        exact P
      · have hne : ((q : Int) != (s.size : Int)) = true := by rw [bne_iff_ne]; omega
        have P : ReadPost base b ns cs s C w (.returned (.tuple #[.int .i64 0, .bool false])) w1 :=
          ⟨ns2, cs2, h1, h2, by omega, by omega, h5, h6, .inl ⟨by rw [HR.out]; simp only; rw [if_neg (fun h => by have := congrArg List.length h; rw [List.length_drop] at this; simp at this; omega)], rfl⟩⟩
        clear hr h1 h2 h3 h4 h5 h6 HT HR hat
        go_wp2
        go_ret2
        exact P
  · have P : ReadPost base b ns cs s C w (.returned (.tuple #[.int .i64 0, .bool false])) w :=
      ⟨ns, cs, Ext.refl _, Ext.refl _, by omega, by omega, hS, Fr.refl _ _, .inl ⟨by unfold rdAll; rw [if_pos (by omega)], rfl⟩⟩
    have hgt : decide ((200 : Int) < (s.size : Int)) = true := by simp; omega
    go_enter Tryz.func57, Tryz.ntmps57
    go_wp2
    go_ret2
    exact P

theorem nodeCells_at {ns : List Nd} {i : Nat} {n : Nd} (h : ns[i]? = some n) : (nodeCells ns)[i * 4]? = some (.int .i64 n.kind) ∧ (nodeCells ns)[i * 4 + 1]? = some (.string n.name) ∧ (nodeCells ns)[i * 4 + 2]? = some (.int .i64 n.num) ∧ (nodeCells ns)[i * 4 + 3]? = some (.int .i64 (n.args : Int)) := by
  induction ns generalizing i with
  | nil => simp at h
  | cons x xs ih =>
    have e : x.cells.length = 4 := rfl
    have e2 : nodeCells (x :: xs) = x.cells ++ nodeCells xs := rfl
    cases i with
    | zero =>
      obtain rfl : x = n := by simpa using h
      exact ⟨rfl, rfl, rfl, rfl⟩
    | succ i =>
      have := ih (i := i) (by simpa using h)
      rw [e2, List.getElem?_append_right (by omega), List.getElem?_append_right (by omega), List.getElem?_append_right (by omega), List.getElem?_append_right (by omega), e,
        show (i + 1) * 4 - 4 = i * 4 from by omega, show (i + 1) * 4 + 1 - 4 = i * 4 + 1 from by omega, show (i + 1) * 4 + 2 - 4 = i * 4 + 2 from by omega, show (i + 1) * 4 + 3 - 4 = i * 4 + 3 from by omega]
      exact this

structure NodeCellsAt (w : World) (b : Nat) (N : Nat) (i : Nat) (n : Nd) (gn capn : Nat) : Prop where
  lb : b < w.heap.size
  lg : gn < w.heap.size
  st : w.cell? ⟨b, 0, none⟩ = some (.slice (some ⟨gn, 0, none⟩) N capn)
  kind : w.cell? ⟨gn, i * 4, none⟩ = some (.int .i64 n.kind)
  name : w.cell? ⟨gn, i * 4 + 1, none⟩ = some (.string n.name)
  num : w.cell? ⟨gn, i * 4 + 2, none⟩ = some (.int .i64 n.num)
  args : w.cell? ⟨gn, i * 4 + 3, none⟩ = some (.int .i64 (n.args : Int))

theorem StoreAt.node {w : World} {base b : Nat} {ns : List Nd} {cs : List Cl} (h : StoreAt w base b ns cs) {i : Nat} {n : Nd} (hi : ns[i]? = some n) : ∃ gn capn, NodeCellsAt w b ns.length i n gn capn := by
  obtain ⟨vn, vc, mn, mc, Dn, Dc, a1, a2, a3, a4, a5, a6, a7, a8, a9, a10, a11⟩ := h.lies
  have hlt := (List.getElem?_eq_some_iff.1 hi).1
  obtain ⟨gn, capn, rfl, _, hgn⟩ := a6.form (by omega)
  obtain ⟨q0, q1, q2, q3⟩ := nodeCells_at hi
  refine ⟨gn, capn, lt_of_block a5, hgn, by rw [cell_of_row w b 0 _ _ _ a5]; rfl, ?_, ?_, ?_, ?_⟩
  · rw [a6.cellAt _ (by omega)]; exact q0
  · rw [a6.cellAt _ (by omega)]; exact q1
  · rw [a6.cellAt _ (by omega)]; exact q2
  · rw [a6.cellAt _ (by omega)]; exact q3

/-- TkNum, TkSym, TkCon. -/
def Tm.kind : Tm → Int
  | .num _ => 1
  | .sym _ => 2
  | .con _ _ => 3
theorem At.node {ns : List Nd} {cs : List Cl} {i : Nat} {t : Tm} (h : At ns cs i t) : ∃ n : Nd, ns[i]? = some n ∧ n.kind = t.kind := by
  cases h with
  | num i n h => exact ⟨_, h, rfl⟩
  | sym i y h => exact ⟨_, h, rfl⟩
  | con i name args l is h hl hlen ha => exact ⟨_, h, rfl⟩

/-- impl.TermKind. -/
def iKind (l : List UInt8) : Int := match rdAll l with | none => 0 | some t => t.kind

set_option maxRecDepth 100000 in
set_option maxHeartbeats 1000000 in
theorem implTermKind (s : ByteArray) (hlim : s.size ≤ 140737488351232) (w : World) (hE : Env w.heap.size w) :
    Calls Tryz.prog 41 #[.string s] w fun e w' => e = .returned (.int .i64 (iKind (lst s))) ∧ Below w.heap.size w w' := by
  go_enter Tryz.func41, Tryz.ntmps41
  go_wp2_with fail
  refine (newTermStore_any _).mono ?_
  rintro e w1 ⟨b, rfl, hS1, hb1⟩
  have hE1 := hE.stays hb1
  go_wp2_with fail
  refine (read_any w.heap.size b [] [] s hlim 200 w1 hS1 hE1 (by simp) (by simp) (by omega) (by omega)).mono ?_
  rintro e w2 ⟨ns, cs, h1, h2, h3, h4, h5, h6, (⟨hr, rfl⟩ | ⟨t, i, hr, hat, rfl⟩)⟩
  · have P : (Ending.returned (.int .i64 0) = .returned (.int .i64 (iKind (lst s)))) ∧ Below w.heap.size w w2 := ⟨by unfold iKind; rw [hr], hb1.trans h6.below⟩
    clear hr h1 h2 h3 h4 h5 h6 hb1 hS1 hE1
    go_wp2
    go_ret
    exact P
  · obtain ⟨n, hn, hk⟩ := hat.node
    obtain ⟨gn, capn, hN⟩ := h5.node hn
    have hlt := hat.lt
    have P : (Ending.returned (.int .i64 n.kind) = .returned (.int .i64 (iKind (lst s)))) ∧ Below w.heap.size w w2 := ⟨by unfold iKind; rw [hr, hk], hb1.trans h6.below⟩
    have x0 := hN.st
    have x1 := hN.kind
    have x2 : i * 4 < 10000 := by omega
    clear hr h1 h2 h4 h5 h6 hb1 hS1 hE1 hat hn hk hN
    go_wp2
    go_ret
    exact P

end Go.Proofs.YtcohjmbbanjjeaaGreatDoor
