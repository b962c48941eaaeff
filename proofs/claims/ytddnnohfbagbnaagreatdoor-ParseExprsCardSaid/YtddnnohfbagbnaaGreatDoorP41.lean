/- Parts of the proof: Qeb. -/
import Derived.Test.YtddnnohfbagbnaaGreatDoorHi
import Derived.Test.YtddnnohfbagbnaaGreatDoorP17
set_option linter.unusedSimpArgs false
set_option linter.unusedVariables false
namespace Go.Proofs.YtddnnohfbagbnaaGreatDoor
open Go.RowKit
theorem qexpr_text (w:World) (s:ByteArray) (hs:s.size≤maxLen):Calls Tryz.prog 11 #[.string s] w (akc w s):=by
 by_cases h0:aie s=0
 ·by_cases h1:(RX .expr (RS0 s)).2.wc=0
  ·by_cases h2:(RX .expr (RS0 s)).2.ws=[]
   ·by_cases h3:(hdE (RX .expr (RS0 s)).1).size≤3000
    ·by_cases h4:abk (hdE (RX .expr (RS0 s)).1)≤40
     ·exact qexpr_good w s hs h0 h1 h2 h3 h4
     ·exact qexpr_deep w s hs h0 h1 h2 h3 (by omega)
    ·exact qexpr_many w s hs h0 h1 h2 (by omega)
   ·exact qexpr_left w s hs h0 h1 h2
  ·exact qexpr_wrong w s hs h0 h1
 ·exact qexpr_none w s hs h0
end Go.Proofs.YtddnnohfbagbnaaGreatDoor
