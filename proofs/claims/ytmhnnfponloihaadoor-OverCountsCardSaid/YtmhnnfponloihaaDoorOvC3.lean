/- Cases of law 9's OverCounts: by running them. -/
import Derived.Test.YtmhnnfponloihaaDoorOvA
set_option linter.unusedSimpArgs false
set_option linter.unusedVariables false
set_option maxRecDepth 1000000
namespace Go.Proofs.YtmhnnfponloihaaDoor
open Go.RowKit

theorem ovc_24 : allF (fun j => ovc 24 j) (List.range 6) = true := by decide +kernel
theorem ovc_25 : allF (fun j => ovc 25 j) (List.range 6) = true := by decide +kernel
theorem ovc_26 : allF (fun j => ovc 26 j) (List.range 6) = true := by decide +kernel
theorem ovc_27 : allF (fun j => ovc 27 j) (List.range 6) = true := by decide +kernel
theorem ovc_28 : allF (fun j => ovc 28 j) (List.range 6) = true := by decide +kernel
theorem ovc_29 : allF (fun j => ovc 29 j) (List.range 6) = true := by decide +kernel
theorem ovc_30 : allF (fun j => ovc 30 j) (List.range 6) = true := by decide +kernel
theorem ovc_31 : allF (fun j => ovc 31 j) (List.range 6) = true := by decide +kernel
end Go.Proofs.YtmhnnfponloihaaDoor
