/- Cases of law 9's OverCounts: by running them. -/
import Derived.Test.YtmhnnfponloihaaDoorOvA
set_option linter.unusedSimpArgs false
set_option linter.unusedVariables false
set_option maxRecDepth 1000000
namespace Go.Proofs.YtmhnnfponloihaaDoor
open Go.RowKit

theorem ovc_8 : allF (fun j => ovc 8 j) (List.range 6) = true := by decide +kernel
theorem ovc_9 : allF (fun j => ovc 9 j) (List.range 6) = true := by decide +kernel
theorem ovc_10 : allF (fun j => ovc 10 j) (List.range 6) = true := by decide +kernel
theorem ovc_11 : allF (fun j => ovc 11 j) (List.range 6) = true := by decide +kernel
theorem ovc_12 : allF (fun j => ovc 12 j) (List.range 6) = true := by decide +kernel
theorem ovc_13 : allF (fun j => ovc 13 j) (List.range 6) = true := by decide +kernel
theorem ovc_14 : allF (fun j => ovc 14 j) (List.range 6) = true := by decide +kernel
theorem ovc_15 : allF (fun j => ovc 15 j) (List.range 6) = true := by decide +kernel
end Go.Proofs.YtmhnnfponloihaaDoor
