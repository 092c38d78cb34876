/-
  The law of Compose.
-/
import Derived.Test.YtliibknppfbfeaaPLK
import Derived.Test.YtliibknppfbfeaaPIC
namespace Go.Proofs.Ytliibknppfbfeaa.Pr
open Go Go.RowKit Go.Maps Go.WideMaps

theorem law_FnExactCompose (g h : Gr) (vg vh : List Value) (W : World) (hF1 : FGr (fun b => b < W.heap.size) W vg g) (hF2 : FGr (fun b => b < W.heap.size) W vh h) (hf1 : g.fits) (hf2 : h.fits) :
    Calls Try.prog 4 #[.agg vg.toArray, .agg vh.toArray] W fun e w' => e = .returned (.bool true) ∧ Below W.heap.size W w' := law_FnExactCompose_of implCompose g h vg vh W hF1 hF2 hf1 hf2

end Go.Proofs.Ytliibknppfbfeaa.Pr
