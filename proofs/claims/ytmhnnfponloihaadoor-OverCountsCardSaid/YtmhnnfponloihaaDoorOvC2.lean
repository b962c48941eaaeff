/- Cases of law 9's OverCounts: by running them. -/
import Derived.Test.YtmhnnfponloihaaDoorOvA
set_option linter.unusedSimpArgs false
set_option linter.unusedVariables false
set_option maxRecDepth 1000000
namespace Go.Proofs.YtmhnnfponloihaaDoor
open Go.RowKit

theorem ovc_16 : allF (fun j => ovc 16 j) (List.range 6) = true := by decide +kernel
theorem ovc_17 : allF (fun j => ovc 17 j) (List.range 6) = true := by decide +kernel
theorem ovc_18 : allF (fun j => ovc 18 j) (List.range 6) = true := by decide +kernel
theorem ovc_19 : allF (fun j => ovc 19 j) (List.range 6) = true := by decide +kernel
theorem ovc_20 : allF (fun j => ovc 20 j) (List.range 6) = true := by decide +kernel
theorem ovc_21 : allF (fun j => ovc 21 j) (List.range 6) = true := by decide +kernel
theorem ovc_22 : allF (fun j => ovc 22 j) (List.range 6) = true := by decide +kernel
theorem ovc_23 : allF (fun j => ovc 23 j) (List.range 6) = true := by decide +kernel
end Go.Proofs.YtmhnnfponloihaaDoor
