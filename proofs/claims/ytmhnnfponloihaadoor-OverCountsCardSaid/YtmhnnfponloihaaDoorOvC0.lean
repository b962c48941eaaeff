/- Cases of law 9's OverCounts: by running them. -/
import Derived.Test.YtmhnnfponloihaaDoorOvA
set_option linter.unusedSimpArgs false
set_option linter.unusedVariables false
set_option maxRecDepth 1000000
namespace Go.Proofs.YtmhnnfponloihaaDoor
open Go.RowKit

theorem ovc_0 : allF (fun j => ovc 0 j) (List.range 6) = true := by decide +kernel
theorem ovc_1 : allF (fun j => ovc 1 j) (List.range 6) = true := by decide +kernel
theorem ovc_2 : allF (fun j => ovc 2 j) (List.range 6) = true := by decide +kernel
theorem ovc_3 : allF (fun j => ovc 3 j) (List.range 6) = true := by decide +kernel
theorem ovc_4 : allF (fun j => ovc 4 j) (List.range 6) = true := by decide +kernel
theorem ovc_5 : allF (fun j => ovc 5 j) (List.range 6) = true := by decide +kernel
theorem ovc_6 : allF (fun j => ovc 6 j) (List.range 6) = true := by decide +kernel
theorem ovc_7 : allF (fun j => ovc 7 j) (List.range 6) = true := by decide +kernel
end Go.Proofs.YtmhnnfponloihaaDoor
