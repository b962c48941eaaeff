/- Law 12: calls that its told makes, by running them. -/
import Derived.Test.YtnohnacgefhgnaaGreatDoorTsA
set_option linter.unusedSimpArgs false
set_option linter.unusedVariables false
set_option maxRecDepth 1000000
namespace Go.Proofs.YtnohnacgefhgnaaGreatDoor
open Go.RowKit

def tbcA : AVs := (.cons (.agg (.cons (.gs 2329 2) .nil)) .nil)
def tbcL : List (Nat × KO) := [
  (2329, .grow (.cons (.s 1 65) (.cons (.s 0 0) (.cons (.gs 1882 4) (.cons (.gs 2130 6) (.cons (.s 1 84) (.cons (.s 0 0) (.cons (.gs 2156 1) (.cons (.gs 2327 2) .nil)))))))) 4 46),
  (1882, .grow (.cons (.b false) (.cons (.s 3 7630441) (.cons (.s 1 120) (.cons (.sl 1830 0 1 1) (.cons (.b true) (.cons (.s 3 7630441) (.cons (.s 1 115) (.cons (.sl 1853 0 1 1) (.cons (.b false) (.cons (.s 1 65) (.cons 
    (.s 1 110) (.cons .ns (.cons (.b false) (.cons (.s 6 113723913172051) (.cons (.s 1 119) (.cons (.sl 1880 0 1 1) .nil)))))))))))))))) 4 74),
  (1830, .cells (.cons (.i .i64 (.ofNat 1)) (.cons (.i .i32 (.ofNat 1)) (.cons (.s 0 0) (.cons (.s 0 0) (.cons (.s 0 0) (.cons .ns (.cons (.s 0 0) (.cons (.i .i64 (.ofNat 0)) .nil)))))))) 76),
  (1853, .cells (.cons (.i .i64 (.ofNat 1)) (.cons (.i .i32 (.ofNat 2)) (.cons (.s 0 0) (.cons (.s 0 0) (.cons (.s 0 0) (.cons .ns (.cons (.s 0 0) (.cons (.i .i64 (.ofNat 0)) .nil)))))))) 76),
  (1880, .cells (.cons (.i .i64 (.ofNat 3)) (.cons (.i .i32 (.ofNat 0)) (.cons (.s 1 119) (.cons (.s 0 0) (.cons (.s 0 0) (.cons .ns (.cons (.s 0 0) (.cons (.i .i64 (.ofNat 0)) .nil)))))))) 76),
  (2130, .grow (.cons (.b false) (.cons (.b true) (.cons (.s 0 0) (.cons (.s 0 0) (.cons .ns (.cons (.gs 1927 1) (.cons (.b false) (.cons (.b false) (.cons (.s 3 7630441) (.cons (.s 1 102) (.cons (.gs 1933 1) (.cons (.gs 
    1985 2) (.cons (.b false) (.cons (.b false) (.cons (.s 3 7630441) (.cons (.s 1 102) (.cons (.gs 1991 1) (.cons (.gs 2015 1) (.cons (.b false) (.cons (.b false) (.cons (.s 3 7630441) (.cons (.s 1 102) (.cons (.gs 2024 2) 
    (.cons (.gs 2061 1) (.cons (.b false) (.cons (.b false) (.cons (.s 4 1684631414) (.cons (.s 2 12903) (.cons .ns (.cons (.gs 2088 1) (.cons (.b true) (.cons (.b false) (.cons (.s 3 7630441) (.cons (.s 1 107) (.cons (.gs 
    2094 1) (.cons (.gs 2128 1) .nil)))))))))))))))))))))))))))))))))))) 6 70),
  (1927, .grow (.cons (.i .i64 (.ofNat 2)) (.cons (.i .i32 (.ofNat 0)) (.cons (.s 0 0) (.cons (.s 0 0) (.cons (.sl 1925 0 2 2) (.cons .ns (.cons .ns (.cons .ns (.cons (.i .i64 (.ofNat 0)) .nil))))))))) 9 100),
  (1925, .cells (.cons (.i .i64 (.ofNat 6)) (.cons (.i .i32 (.ofNat 0)) (.cons (.s 0 0) (.cons (.s 1 120) (.cons (.s 0 0) (.cons .ns (.cons (.s 0 0) (.cons (.i .i64 (.ofNat 0)) (.cons (.i .i64 (.ofNat 1)) (.cons (.i .i32 
    (.ofNat 5)) (.cons (.s 0 0) (.cons (.s 0 0) (.cons (.s 0 0) (.cons .ns (.cons (.s 0 0) (.cons (.i .i64 (.ofNat 0)) .nil)))))))))))))))) 76),
  (1933, .grow (.cons (.s 3 7630441) (.cons (.s 1 97) .nil)) 2 98),
  (1985, .grow (.cons (.i .i64 (.ofNat 1)) (.cons (.i .i32 (.ofNat 0)) (.cons (.s 1 65) (.cons (.s 1 111) (.cons (.sl 1958 0 1 1) (.cons .ns (.cons .ns (.cons .ns (.cons (.i .i64 (.ofNat 0)) (.cons (.i .i64 (.ofNat 6)) 
    (.cons (.i .i32 (.ofNat 0)) (.cons (.s 0 0) (.cons (.s 0 0) (.cons (.sl 1983 0 1 1) (.cons .ns (.cons .ns (.cons .ns (.cons (.i .i64 (.ofNat 0)) .nil)))))))))))))))))) 9 100),
  (1958, .cells (.cons (.i .i64 (.ofNat 6)) (.cons (.i .i32 (.ofNat 0)) (.cons (.s 0 0) (.cons (.s 1 110) (.cons (.s 0 0) (.cons .ns (.cons (.s 0 0) (.cons (.i .i64 (.ofNat 0)) .nil)))))))) 76),
  (1983, .cells (.cons (.i .i64 (.ofNat 6)) (.cons (.i .i32 (.ofNat 0)) (.cons (.s 0 0) (.cons (.s 1 120) (.cons (.s 0 0) (.cons .ns (.cons (.s 0 0) (.cons (.i .i64 (.ofNat 0)) .nil)))))))) 76),
  (1991, .grow (.cons (.s 1 65) (.cons (.s 1 111) .nil)) 2 98),
  (2015, .grow (.cons (.i .i64 (.ofNat 6)) (.cons (.i .i32 (.ofNat 0)) (.cons (.s 0 0) (.cons (.s 0 0) (.cons (.sl 2013 0 1 1) (.cons .ns (.cons .ns (.cons .ns (.cons (.i .i64 (.ofNat 0)) .nil))))))))) 9 100),
  (2013, .cells (.cons (.i .i64 (.ofNat 1)) (.cons (.i .i32 (.ofNat 1)) (.cons (.s 0 0) (.cons (.s 0 0) (.cons (.s 0 0) (.cons .ns (.cons (.s 0 0) (.cons (.i .i64 (.ofNat 0)) .nil)))))))) 76),
  (2024, .grow (.cons (.s 3 7630441) (.cons (.s 1 97) (.cons (.s 3 7630441) (.cons (.s 1 98) .nil)))) 2 98),
  (2061, .grow (.cons (.i .i64 (.ofNat 6)) (.cons (.i .i32 (.ofNat 0)) (.cons (.s 0 0) (.cons (.s 0 0) (.cons (.sl 2059 0 1 1) (.cons .ns (.cons .ns (.cons .ns (.cons (.i .i64 (.ofNat 0)) .nil))))))))) 9 100),
  (2059, .cells (.cons (.i .i64 (.ofNat 17)) (.cons (.i .i32 (.ofNat 0)) (.cons (.s 0 0) (.cons (.s 1 45) (.cons (.s 0 0) (.cons (.sl 2054 0 2 2) (.cons (.s 0 0) (.cons (.i .i64 (.ofNat 0)) .nil)))))))) 76),
  (2054, .cells (.cons (.i .i64 (.ofNat 6)) (.cons (.i .i32 (.ofNat 0)) (.cons (.s 0 0) (.cons (.s 1 97) (.cons (.s 0 0) (.cons .ns (.cons (.s 0 0) (.cons (.i .i64 (.ofNat 0)) (.cons (.i .i64 (.ofNat 6)) (.cons (.i .i32 
    (.ofNat 0)) (.cons (.s 0 0) (.cons (.s 1 98) (.cons (.s 0 0) (.cons .ns (.cons (.s 0 0) (.cons (.i .i64 (.ofNat 0)) .nil)))))))))))))))) 76),
  (2088, .grow (.cons (.i .i64 (.ofNat 7)) (.cons (.i .i32 (.ofNat 0)) (.cons (.s 0 0) (.cons (.s 0 0) (.cons (.sl 2086 0 1 1) (.cons .ns (.cons .ns (.cons .ns (.cons (.i .i64 (.ofNat 0)) .nil))))))))) 9 100),
  (2086, .cells (.cons (.i .i64 (.ofNat 3)) (.cons (.i .i32 (.ofNat 0)) (.cons (.s 1 65) (.cons (.s 0 0) (.cons (.s 0 0) (.cons .ns (.cons (.s 0 0) (.cons (.i .i64 (.ofNat 0)) .nil)))))))) 76),
  (2094, .grow (.cons (.s 3 7630441) (.cons (.s 1 97) .nil)) 2 98),
  (2128, .grow (.cons (.i .i64 (.ofNat 6)) (.cons (.i .i32 (.ofNat 0)) (.cons (.s 0 0) (.cons (.s 0 0) (.cons (.sl 2126 0 1 1) (.cons .ns (.cons .ns (.cons .ns (.cons (.i .i64 (.ofNat 0)) .nil))))))))) 9 100),
  (2126, .cells (.cons (.i .i64 (.ofNat 17)) (.cons (.i .i32 (.ofNat 0)) (.cons (.s 0 0) (.cons (.s 1 42) (.cons (.s 0 0) (.cons (.sl 2120 0 2 2) (.cons (.s 0 0) (.cons (.i .i64 (.ofNat 0)) .nil)))))))) 76),
  (2120, .cells (.cons (.i .i64 (.ofNat 6)) (.cons (.i .i32 (.ofNat 0)) (.cons (.s 0 0) (.cons (.s 1 97) (.cons (.s 0 0) (.cons .ns (.cons (.s 0 0) (.cons (.i .i64 (.ofNat 0)) (.cons (.i .i64 (.ofNat 9)) (.cons (.i .i32 
    (.ofNat 0)) (.cons (.s 0 0) (.cons (.s 1 115) (.cons (.s 1 65) (.cons .ns (.cons (.s 0 0) (.cons (.i .i64 (.ofNat 0)) .nil)))))))))))))))) 76),
  (2156, .grow (.cons (.b true) (.cons (.s 1 65) (.cons (.s 1 122) (.cons (.sl 2154 0 1 1) .nil)))) 4 74),
  (2154, .cells (.cons (.i .i64 (.ofNat 14)) (.cons (.i .i32 (.ofNat 0)) (.cons (.s 0 0) (.cons (.s 0 0) (.cons (.s 1 65) (.cons .ns (.cons (.s 0 0) (.cons (.i .i64 (.ofNat 0)) .nil)))))))) 76),
  (2327, .grow (.cons (.b true) (.cons (.b false) (.cons (.s 4 1684631414) (.cons (.s 2 12660) (.cons .ns (.cons (.gs 2297 4) (.cons (.b true) (.cons (.b false) (.cons (.s 4 1684631414) (.cons (.s 2 12916) (.cons .ns 
    (.cons (.gs 2325 1) .nil)))))))))))) 6 70),
  (2297, .grow (.cons (.i .i64 (.ofNat 1)) (.cons (.i .i32 (.ofNat 0)) (.cons (.s 1 65) (.cons (.s 1 111) (.cons (.sl 2181 0 1 1) (.cons .ns (.cons .ns (.cons .ns (.cons (.i .i64 (.ofNat 0)) (.cons (.i .i64 (.ofNat 7)) 
    (.cons (.i .i32 (.ofNat 0)) (.cons (.s 0 0) (.cons (.s 0 0) (.cons (.sl 2229 0 1 1) (.cons .ns (.cons .ns (.cons .ns (.cons (.i .i64 (.ofNat 0)) (.cons (.i .i64 (.ofNat 3)) (.cons (.i .i32 (.ofNat 0)) (.cons (.s 0 0) 
    (.cons (.s 0 0) (.cons (.sl 2257 0 1 1) (.cons .ns (.cons .ns (.cons .ns (.cons (.i .i64 (.ofNat 0)) (.cons (.i .i64 (.ofNat 8)) (.cons (.i .i32 (.ofNat 1)) (.cons (.s 0 0) (.cons (.s 0 0) (.cons (.sl 2295 0 1 1) (.cons 
    .ns (.cons .ns (.cons .ns (.cons (.i .i64 (.ofNat 0)) .nil)))))))))))))))))))))))))))))))))))) 9 100),
  (2181, .cells (.cons (.i .i64 (.ofNat 9)) (.cons (.i .i32 (.ofNat 0)) (.cons (.s 0 0) (.cons (.s 1 122) (.cons (.s 1 84) (.cons .ns (.cons (.s 0 0) (.cons (.i .i64 (.ofNat 0)) .nil)))))))) 76),
  (2229, .cells (.cons (.i .i64 (.ofNat 10)) (.cons (.i .i32 (.ofNat 0)) (.cons (.s 0 0) (.cons (.s 1 102) (.cons (.s 0 0) (.cons (.gs 2222 2) (.cons (.s 0 0) (.cons (.i .i64 (.ofNat 0)) .nil)))))))) 76),
  (2222, .grow (.cons (.i .i64 (.ofNat 6)) (.cons (.i .i32 (.ofNat 0)) (.cons (.s 0 0) (.cons (.s 1 111) (.cons (.s 0 0) (.cons .ns (.cons (.s 0 0) (.cons (.i .i64 (.ofNat 0)) (.cons (.i .i64 (.ofNat 1)) (.cons (.i .i32 
    (.ofNat 3)) (.cons (.s 0 0) (.cons (.s 0 0) (.cons (.s 0 0) (.cons .ns (.cons (.s 0 0) (.cons (.i .i64 (.ofNat 0)) .nil)))))))))))))))) 8 76),
  (2257, .cells (.cons (.i .i64 (.ofNat 10)) (.cons (.i .i32 (.ofNat 0)) (.cons (.s 0 0) (.cons (.s 2 12903) (.cons (.s 0 0) (.cons (.sl 2249 0 1 1) (.cons (.s 0 0) (.cons (.i .i64 (.ofNat 0)) .nil)))))))) 76),
  (2249, .cells (.cons (.i .i64 (.ofNat 6)) (.cons (.i .i32 (.ofNat 0)) (.cons (.s 0 0) (.cons (.s 1 111) (.cons (.s 0 0) (.cons .ns (.cons (.s 0 0) (.cons (.i .i64 (.ofNat 0)) .nil)))))))) 76),
  (2295, .cells (.cons (.i .i64 (.ofNat 17)) (.cons (.i .i32 (.ofNat 0)) (.cons (.s 0 0) (.cons (.s 1 60) (.cons (.s 0 0) (.cons (.sl 2291 0 2 2) (.cons (.s 0 0) (.cons (.i .i64 (.ofNat 0)) .nil)))))))) 76),
  (2291, .cells (.cons (.i .i64 (.ofNat 7)) (.cons (.i .i32 (.ofNat 0)) (.cons (.s 0 0) (.cons (.s 1 120) (.cons (.s 0 0) (.cons (.sl 2277 0 1 1) (.cons (.s 0 0) (.cons (.i .i64 (.ofNat 0)) (.cons (.i .i64 (.ofNat 1)) 
    (.cons (.i .i32 (.ofNat 9)) (.cons (.s 0 0) (.cons (.s 0 0) (.cons (.s 0 0) (.cons .ns (.cons (.s 0 0) (.cons (.i .i64 (.ofNat 0)) .nil)))))))))))))))) 76),
  (2277, .cells (.cons (.i .i64 (.ofNat 6)) (.cons (.i .i32 (.ofNat 0)) (.cons (.s 0 0) (.cons (.s 1 111) (.cons (.s 0 0) (.cons .ns (.cons (.s 0 0) (.cons (.i .i64 (.ofNat 0)) .nil)))))))) 76),
  (2325, .grow (.cons (.i .i64 (.ofNat 1)) (.cons (.i .i32 (.ofNat 0)) (.cons (.s 1 65) (.cons (.s 1 111) (.cons (.sl 2323 0 1 1) (.cons .ns (.cons .ns (.cons .ns (.cons (.i .i64 (.ofNat 0)) .nil))))))))) 9 100),
  (2323, .cells (.cons (.i .i64 (.ofNat 14)) (.cons (.i .i32 (.ofNat 0)) (.cons (.s 0 0) (.cons (.s 0 0) (.cons (.s 1 65) (.cons .ns (.cons (.s 0 0) (.cons (.i .i64 (.ofNat 0)) .nil)))))))) 76)]
abbrev tbcX : Nat := 2469
def tbcV : AV := (.tup (.cons (.i .i64 (.ofNat 0)) (.cons (.s 0 0) .nil)))
def tbcB : List (Nat × KO) := []
def tbcN : Nat := 3987
theorem tbc_is : isX (fvC Tryz.prog tsX tsG tsK0 10000 (.fn 43) tbcA (layB idN tbcL heap0) tbcX) tbcV tbcL tbcB tbcX tbcN = true := by decide +kernel
noncomputable def tbcK : Caller := knownX 43 tbcA tbcL tbcX tbcV tbcB tbcN
theorem tbcK_ok : CallOk Tryz.prog tbcK := knownX_ok tsG_ok (Checked.mixed Tryz.checked) tsX_ok tsK0_ok (by decide +kernel) tbc_is
end Go.Proofs.YtnohnacgefhgnaaGreatDoor
