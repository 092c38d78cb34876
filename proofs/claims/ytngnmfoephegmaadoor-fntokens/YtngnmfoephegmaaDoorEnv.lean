/-
  WHAT THE LIBRARY's VARIABLES GIVE, BELOW A BASE; strconv.Atoi AT EVERY STRING.
-/
import Derived.Test.YtngnmfoephegmaaDoorLaid
import Derived.Test.YtngnmfoephegmaaDoorShelfA
import Derived.Test.YtngnmfoephegmaaDoorStore
import Derived.Test.YtngnmfoephegmaaDoorTm
namespace Go.Proofs.YtngnmfoephegmaaDoor
open Go Go.RowKit

theorem gSyn : Tryd.prog.globalNamed "strconv.ErrSyntax" = some ((Tryd.prog.globalNamed "strconv.ErrSyntax").getD 0) := by kernel_rfl
theorem gRng : Tryd.prog.globalNamed "strconv.ErrRange" = some ((Tryd.prog.globalNamed "strconv.ErrRange").getD 0) := by kernel_rfl

structure Env (base : Nat) (w : World) : Prop where
  size : base ≤ w.heap.size
  lp : (Tryd.prog.globalNamed "internal/strconv.uint64pow10").getD 0 < base
  ls : (Tryd.prog.globalNamed "strconv.ErrSyntax").getD 0 < base
  lr : (Tryd.prog.globalNamed "strconv.ErrRange").getD 0 < base
  pow : Pow w
  syn : ∃ tp p, w.var? Tryd.prog "strconv.ErrSyntax" = some #[.iface tp p]
  rng : ∃ tp p, w.var? Tryd.prog "strconv.ErrRange" = some #[.iface tp p]

theorem var_keeps {w w' : World} {base g : Nat} {n : String} (hg : Tryd.prog.globalNamed n = some g) (hlt : g < base) (hb : Below base w w') : w'.var? Tryd.prog n = w.var? Tryd.prog n := by
  unfold World.var?
  rw [hg]
  simp only [Option.bind_some]
  rw [hb.block g hlt]

theorem Env.stays {base : Nat} {w w' : World} (h : Env base w) (hb : Below base w w') : Env base w' :=
  ⟨Nat.le_trans h.size hb.size, h.lp, h.ls, h.lr, (var_keeps gPow h.lp hb).trans h.pow, by rw [var_keeps gSyn h.ls hb]; exact h.syn, by rw [var_keeps gRng h.lr hb]; exact h.rng⟩

theorem Env.top {base : Nat} {w : World} (h : Env base w) : Env w.heap.size w :=
  ⟨Nat.le_refl _, Nat.lt_of_lt_of_le h.lp h.size, Nat.lt_of_lt_of_le h.ls h.size, Nat.lt_of_lt_of_le h.lr h.size, h.pow, h.syn, h.rng⟩

/-- strconv.Atoi of a text that is no int: an error. -/
theorem atoi_bad (s : ByteArray) (hlim : s.size ≤ 1000) (h : ∀ v, Lib.atoiAll s.data.toList ≠ .ok v) (base : Nat) (w : World) (hE : Env base w) :
    Calls Tryd.prog 63 #[.string s] w fun e w' => ∃ (n : Int) (a : Addr), e = .returned (.tuple #[.int .i64 n, .iface 90 (.pointer (some a))]) ∧ Below w.heap.size w w' := by
  rcases hh : Lib.atoiAll s.data.toList with v | _ | _
  · exact absurd hh (h v)
  · obtain ⟨tp, p, hv⟩ := hE.syn
    exact (Any.strconv_Atoi_syntax_var Tryd.laysC172 s (by omega) hh tp p w hv).mono fun e w' ⟨N, he, _, _, hb⟩ => ⟨_, _, he, hb⟩
  · obtain ⟨tp, p, hv⟩ := hE.rng
    exact (Any.strconv_Atoi_range_var Tryd.laysC172 s (by omega) hh tp p w hv).mono fun e w' ⟨N, he, _, _, hb⟩ => ⟨_, _, he, hb⟩

end Go.Proofs.YtngnmfoephegmaaDoor
