/- Law 10: calls that its told makes, by running them. -/
import Derived.Test.YtgipddojcgnbkaaGreatDoorTsA
set_option linter.unusedSimpArgs false
set_option linter.unusedVariables false
set_option maxRecDepth 1000000
namespace Go.Proofs.YtgipddojcgnbkaaGreatDoor
open Go.RowKit

def tspA : AVs := (.cons (.s 558 
    25726785782137880062941100926480372446722205862188634346077869918694414021290958037425524084925673286753363916713107324078039356391261392841331573908642490508960530532869137127130819300035779820968224365984944703950291777110764176306760167706342193288641757279585973032341606383000503826835002475236994344615919580049945435515670319658156114461580355437534507187420645559371398281940019794744619404598162778491017405671699348562173559300776744935913909490491047062114024546191239873926315011759330437095499743273225261148231573358190444884514342733856162770283798312796018219923950296437014355523391386863949612319509808734639614414580282826397862100391830759976533733426220022722929466788833031518319294446296459488625092778290324891197559286836535118008281655292143066835304267241266040943917651232821222161668036087040194234274448648797872539717120830047496504021587698769767954291512635884018897880315432623606187602309884684795235310467512867316725869321394385532381440905961132412290999469243729141374179128348643044308582003854124778203818780431304808777203579269900822830854905553379097837639539820116236032008922475283780974919720386880761828598714457760273686609239813082764129514275313426336518231896983114192882292046052632409461085385581044402958320479766691969699219236849104657149795934264868842801832994394678912891974934686819) 
    .nil)
def tspL : List (Nat × KO) := []
abbrev tspX : Nat := 11
def tspV : AV := (.tup (.cons (.agg (.cons (.gs 3431 3) .nil)) (.cons (.i .i64 (.ofNat 0)) (.cons (.i .i64 (.ofNat 0)) .nil))))
def tspB : List (Nat × KO) := [
  (3431, .grow (.cons (.s 1 65) (.cons (.s 0 0) (.cons (.gs 2707 4) (.cons (.gs 2955 6) (.cons (.s 1 66) (.cons (.s 1 65) (.cons (.gs 2989 3) (.cons (.gs 3192 4) (.cons (.s 1 84) (.cons (.s 0 0) (.cons (.gs 3238 1) (.cons 
    (.gs 3429 2) .nil)))))))))))) 4 66),
  (2707, .grow (.cons (.b false) (.cons (.s 3 7630441) (.cons (.s 1 120) (.cons (.sl 2655 0 1 1) (.cons (.b true) (.cons (.s 3 7630441) (.cons (.s 1 115) (.cons (.sl 2678 0 1 1) (.cons (.b false) (.cons (.s 1 65) (.cons 
    (.s 1 110) (.cons .ns (.cons (.b false) (.cons (.s 6 113723913172051) (.cons (.s 1 119) (.cons (.sl 2705 0 1 1) .nil)))))))))))))))) 4 103),
  (2655, .cells (.cons (.i .i64 (.ofNat 1)) (.cons (.i .i32 (.ofNat 1)) (.cons (.s 0 0) (.cons (.s 0 0) (.cons (.s 0 0) (.cons .ns (.cons (.s 0 0) (.cons (.i .i64 (.ofNat 0)) .nil)))))))) 30),
  (2678, .cells (.cons (.i .i64 (.ofNat 1)) (.cons (.i .i32 (.ofNat 2)) (.cons (.s 0 0) (.cons (.s 0 0) (.cons (.s 0 0) (.cons .ns (.cons (.s 0 0) (.cons (.i .i64 (.ofNat 0)) .nil)))))))) 30),
  (2705, .cells (.cons (.i .i64 (.ofNat 3)) (.cons (.i .i32 (.ofNat 0)) (.cons (.s 1 119) (.cons (.s 0 0) (.cons (.s 0 0) (.cons .ns (.cons (.s 0 0) (.cons (.i .i64 (.ofNat 0)) .nil)))))))) 30),
  (2955, .grow (.cons (.b false) (.cons (.b true) (.cons (.s 0 0) (.cons (.s 0 0) (.cons .ns (.cons (.gs 2752 1) (.cons (.b false) (.cons (.b false) (.cons (.s 3 7630441) (.cons (.s 1 102) (.cons (.gs 2758 1) (.cons (.gs 
    2810 2) (.cons (.b false) (.cons (.b false) (.cons (.s 3 7630441) (.cons (.s 1 102) (.cons (.gs 2816 1) (.cons (.gs 2840 1) (.cons (.b false) (.cons (.b false) (.cons (.s 3 7630441) (.cons (.s 1 102) (.cons (.gs 2849 2) 
    (.cons (.gs 2886 1) (.cons (.b false) (.cons (.b false) (.cons (.s 4 1684631414) (.cons (.s 2 12903) (.cons .ns (.cons (.gs 2913 1) (.cons (.b true) (.cons (.b false) (.cons (.s 3 7630441) (.cons (.s 1 107) (.cons (.gs 
    2919 1) (.cons (.gs 2953 1) .nil)))))))))))))))))))))))))))))))))))) 6 100),
  (2752, .grow (.cons (.i .i64 (.ofNat 2)) (.cons (.i .i32 (.ofNat 0)) (.cons (.s 0 0) (.cons (.s 0 0) (.cons (.sl 2750 0 2 2) (.cons .ns (.cons .ns (.cons .ns (.cons (.i .i64 (.ofNat 0)) .nil))))))))) 9 133),
  (2750, .cells (.cons (.i .i64 (.ofNat 6)) (.cons (.i .i32 (.ofNat 0)) (.cons (.s 0 0) (.cons (.s 1 120) (.cons (.s 0 0) (.cons .ns (.cons (.s 0 0) (.cons (.i .i64 (.ofNat 0)) (.cons (.i .i64 (.ofNat 1)) (.cons (.i .i32 
    (.ofNat 5)) (.cons (.s 0 0) (.cons (.s 0 0) (.cons (.s 0 0) (.cons .ns (.cons (.s 0 0) (.cons (.i .i64 (.ofNat 0)) .nil)))))))))))))))) 30),
  (2758, .grow (.cons (.s 3 7630441) (.cons (.s 1 97) .nil)) 2 34),
  (2810, .grow (.cons (.i .i64 (.ofNat 1)) (.cons (.i .i32 (.ofNat 0)) (.cons (.s 1 65) (.cons (.s 1 111) (.cons (.sl 2783 0 1 1) (.cons .ns (.cons .ns (.cons .ns (.cons (.i .i64 (.ofNat 0)) (.cons (.i .i64 (.ofNat 6)) 
    (.cons (.i .i32 (.ofNat 0)) (.cons (.s 0 0) (.cons (.s 0 0) (.cons (.sl 2808 0 1 1) (.cons .ns (.cons .ns (.cons .ns (.cons (.i .i64 (.ofNat 0)) .nil)))))))))))))))))) 9 133),
  (2783, .cells (.cons (.i .i64 (.ofNat 6)) (.cons (.i .i32 (.ofNat 0)) (.cons (.s 0 0) (.cons (.s 1 110) (.cons (.s 0 0) (.cons .ns (.cons (.s 0 0) (.cons (.i .i64 (.ofNat 0)) .nil)))))))) 30),
  (2808, .cells (.cons (.i .i64 (.ofNat 6)) (.cons (.i .i32 (.ofNat 0)) (.cons (.s 0 0) (.cons (.s 1 120) (.cons (.s 0 0) (.cons .ns (.cons (.s 0 0) (.cons (.i .i64 (.ofNat 0)) .nil)))))))) 30),
  (2816, .grow (.cons (.s 1 65) (.cons (.s 1 111) .nil)) 2 34),
  (2840, .grow (.cons (.i .i64 (.ofNat 6)) (.cons (.i .i32 (.ofNat 0)) (.cons (.s 0 0) (.cons (.s 0 0) (.cons (.sl 2838 0 1 1) (.cons .ns (.cons .ns (.cons .ns (.cons (.i .i64 (.ofNat 0)) .nil))))))))) 9 133),
  (2838, .cells (.cons (.i .i64 (.ofNat 1)) (.cons (.i .i32 (.ofNat 1)) (.cons (.s 0 0) (.cons (.s 0 0) (.cons (.s 0 0) (.cons .ns (.cons (.s 0 0) (.cons (.i .i64 (.ofNat 0)) .nil)))))))) 30),
  (2849, .grow (.cons (.s 3 7630441) (.cons (.s 1 97) (.cons (.s 3 7630441) (.cons (.s 1 98) .nil)))) 2 34),
  (2886, .grow (.cons (.i .i64 (.ofNat 6)) (.cons (.i .i32 (.ofNat 0)) (.cons (.s 0 0) (.cons (.s 0 0) (.cons (.sl 2884 0 1 1) (.cons .ns (.cons .ns (.cons .ns (.cons (.i .i64 (.ofNat 0)) .nil))))))))) 9 133),
  (2884, .cells (.cons (.i .i64 (.ofNat 17)) (.cons (.i .i32 (.ofNat 0)) (.cons (.s 0 0) (.cons (.s 1 45) (.cons (.s 0 0) (.cons (.sl 2879 0 2 2) (.cons (.s 0 0) (.cons (.i .i64 (.ofNat 0)) .nil)))))))) 30),
  (2879, .cells (.cons (.i .i64 (.ofNat 6)) (.cons (.i .i32 (.ofNat 0)) (.cons (.s 0 0) (.cons (.s 1 97) (.cons (.s 0 0) (.cons .ns (.cons (.s 0 0) (.cons (.i .i64 (.ofNat 0)) (.cons (.i .i64 (.ofNat 6)) (.cons (.i .i32 
    (.ofNat 0)) (.cons (.s 0 0) (.cons (.s 1 98) (.cons (.s 0 0) (.cons .ns (.cons (.s 0 0) (.cons (.i .i64 (.ofNat 0)) .nil)))))))))))))))) 30),
  (2913, .grow (.cons (.i .i64 (.ofNat 7)) (.cons (.i .i32 (.ofNat 0)) (.cons (.s 0 0) (.cons (.s 0 0) (.cons (.sl 2911 0 1 1) (.cons .ns (.cons .ns (.cons .ns (.cons (.i .i64 (.ofNat 0)) .nil))))))))) 9 133),
  (2911, .cells (.cons (.i .i64 (.ofNat 3)) (.cons (.i .i32 (.ofNat 0)) (.cons (.s 1 65) (.cons (.s 0 0) (.cons (.s 0 0) (.cons .ns (.cons (.s 0 0) (.cons (.i .i64 (.ofNat 0)) .nil)))))))) 30),
  (2919, .grow (.cons (.s 3 7630441) (.cons (.s 1 97) .nil)) 2 34),
  (2953, .grow (.cons (.i .i64 (.ofNat 6)) (.cons (.i .i32 (.ofNat 0)) (.cons (.s 0 0) (.cons (.s 0 0) (.cons (.sl 2951 0 1 1) (.cons .ns (.cons .ns (.cons .ns (.cons (.i .i64 (.ofNat 0)) .nil))))))))) 9 133),
  (2951, .cells (.cons (.i .i64 (.ofNat 17)) (.cons (.i .i32 (.ofNat 0)) (.cons (.s 0 0) (.cons (.s 1 42) (.cons (.s 0 0) (.cons (.sl 2945 0 2 2) (.cons (.s 0 0) (.cons (.i .i64 (.ofNat 0)) .nil)))))))) 30),
  (2945, .cells (.cons (.i .i64 (.ofNat 6)) (.cons (.i .i32 (.ofNat 0)) (.cons (.s 0 0) (.cons (.s 1 97) (.cons (.s 0 0) (.cons .ns (.cons (.s 0 0) (.cons (.i .i64 (.ofNat 0)) (.cons (.i .i64 (.ofNat 9)) (.cons (.i .i32 
    (.ofNat 0)) (.cons (.s 0 0) (.cons (.s 1 115) (.cons (.s 1 65) (.cons .ns (.cons (.s 0 0) (.cons (.i .i64 (.ofNat 0)) .nil)))))))))))))))) 30),
  (2989, .grow (.cons (.b false) (.cons (.s 3 7630441) (.cons (.s 1 120) (.cons (.sl 2979 0 1 1) (.cons (.b false) (.cons (.s 3 7630441) (.cons (.s 1 121) (.cons .ns (.cons (.b false) (.cons (.s 1 66) (.cons (.s 1 109) 
    (.cons .ns .nil)))))))))))) 4 103),
  (2979, .cells (.cons (.i .i64 (.ofNat 1)) (.cons (.i .i32 (.ofNat 7)) (.cons (.s 0 0) (.cons (.s 0 0) (.cons (.s 0 0) (.cons .ns (.cons (.s 0 0) (.cons (.i .i64 (.ofNat 0)) .nil)))))))) 30),
  (3192, .grow (.cons (.b false) (.cons (.b true) (.cons (.s 0 0) (.cons (.s 0 0) (.cons (.gs 2992 1) (.cons (.gs 3043 2) (.cons (.b false) (.cons (.b true) (.cons (.s 0 0) (.cons (.s 0 0) (.cons .ns (.cons .ns (.cons (.b 
    false) (.cons (.b false) (.cons (.s 3 7630441) (.cons (.s 1 102) (.cons (.gs 3052 1) (.cons (.gs 3113 2) (.cons (.b false) (.cons (.b false) (.cons (.s 4 1684631414) (.cons (.s 2 12903) (.cons .ns (.cons (.gs 3190 3) 
    .nil)))))))))))))))))))))))) 6 100),
  (2992, .grow (.cons (.s 3 7630441) (.cons (.s 1 97) .nil)) 2 34),
  (3043, .grow (.cons (.i .i64 (.ofNat 11)) (.cons (.i .i32 (.ofNat 0)) (.cons (.s 0 0) (.cons (.s 0 0) (.cons .ns (.cons .ns (.cons .ns (.cons .ns (.cons (.i .i64 (.ofNat 0)) (.cons (.i .i64 (.ofNat 2)) (.cons (.i .i32 
    (.ofNat 0)) (.cons (.s 0 0) (.cons (.s 0 0) (.cons (.sl 3041 0 2 2) (.cons .ns (.cons .ns (.cons .ns (.cons (.i .i64 (.ofNat 0)) .nil)))))))))))))))))) 9 133),
  (3041, .cells (.cons (.i .i64 (.ofNat 6)) (.cons (.i .i32 (.ofNat 0)) (.cons (.s 0 0) (.cons (.s 1 121) (.cons (.s 0 0) (.cons .ns (.cons (.s 0 0) (.cons (.i .i64 (.ofNat 0)) (.cons (.i .i64 (.ofNat 6)) (.cons (.i .i32 
    (.ofNat 0)) (.cons (.s 0 0) (.cons (.s 1 97) (.cons (.s 0 0) (.cons .ns (.cons (.s 0 0) (.cons (.i .i64 (.ofNat 0)) .nil)))))))))))))))) 30),
  (3052, .grow (.cons (.s 3 7630441) (.cons (.s 1 97) .nil)) 2 34),
  (3113, .grow (.cons (.i .i64 (.ofNat 1)) (.cons (.i .i32 (.ofNat 0)) (.cons (.s 1 65) (.cons (.s 1 111) (.cons (.sl 3075 0 1 1) (.cons .ns (.cons .ns (.cons .ns (.cons (.i .i64 (.ofNat 0)) (.cons (.i .i64 (.ofNat 6)) 
    (.cons (.i .i32 (.ofNat 0)) (.cons (.s 0 0) (.cons (.s 0 0) (.cons (.sl 3111 0 1 1) (.cons .ns (.cons .ns (.cons .ns (.cons (.i .i64 (.ofNat 0)) .nil)))))))))))))))))) 9 133),
  (3075, .cells (.cons (.i .i64 (.ofNat 5)) (.cons (.i .i32 (.ofNat 0)) (.cons (.s 0 0) (.cons (.s 0 0) (.cons (.s 0 0) (.cons .ns (.cons (.s 0 0) (.cons (.i .i64 (.ofNat 0)) .nil)))))))) 30),
  (3111, .cells (.cons (.i .i64 (.ofNat 17)) (.cons (.i .i32 (.ofNat 0)) (.cons (.s 0 0) (.cons (.s 1 43) (.cons (.s 0 0) (.cons (.sl 3106 0 2 2) (.cons (.s 0 0) (.cons (.i .i64 (.ofNat 0)) .nil)))))))) 30),
  (3106, .cells (.cons (.i .i64 (.ofNat 6)) (.cons (.i .i32 (.ofNat 0)) (.cons (.s 0 0) (.cons (.s 1 121) (.cons (.s 0 0) (.cons .ns (.cons (.s 0 0) (.cons (.i .i64 (.ofNat 0)) (.cons (.i .i64 (.ofNat 6)) (.cons (.i .i32 
    (.ofNat 0)) (.cons (.s 0 0) (.cons (.s 1 97) (.cons (.s 0 0) (.cons .ns (.cons (.s 0 0) (.cons (.i .i64 (.ofNat 0)) .nil)))))))))))))))) 30),
  (3190, .grow (.cons (.i .i64 (.ofNat 7)) (.cons (.i .i32 (.ofNat 0)) (.cons (.s 0 0) (.cons (.s 0 0) (.cons (.sl 3138 0 1 1) (.cons .ns (.cons .ns (.cons .ns (.cons (.i .i64 (.ofNat 0)) (.cons (.i .i64 (.ofNat 3)) (.cons 
    (.i .i32 (.ofNat 0)) (.cons (.s 0 0) (.cons (.s 0 0) (.cons (.sl 3163 0 1 1) (.cons .ns (.cons .ns (.cons .ns (.cons (.i .i64 (.ofNat 0)) (.cons (.i .i64 (.ofNat 7)) (.cons (.i .i32 (.ofNat 0)) (.cons (.s 0 0) (.cons (.s 
    0 0) (.cons (.sl 3188 0 1 1) (.cons .ns (.cons .ns (.cons .ns (.cons (.i .i64 (.ofNat 0)) .nil))))))))))))))))))))))))))) 9 133),
  (3138, .cells (.cons (.i .i64 (.ofNat 3)) (.cons (.i .i32 (.ofNat 0)) (.cons (.s 1 66) (.cons (.s 0 0) (.cons (.s 0 0) (.cons .ns (.cons (.s 0 0) (.cons (.i .i64 (.ofNat 0)) .nil)))))))) 30),
  (3163, .cells (.cons (.i .i64 (.ofNat 12)) (.cons (.i .i32 (.ofNat 0)) (.cons (.s 0 0) (.cons (.s 2 12903) (.cons (.s 0 0) (.cons .ns (.cons (.s 0 0) (.cons (.i .i64 (.ofNat 0)) .nil)))))))) 30),
  (3188, .cells (.cons (.i .i64 (.ofNat 6)) (.cons (.i .i32 (.ofNat 0)) (.cons (.s 0 0) (.cons (.s 1 121) (.cons (.s 0 0) (.cons .ns (.cons (.s 0 0) (.cons (.i .i64 (.ofNat 0)) .nil)))))))) 30),
  (3238, .grow (.cons (.b true) (.cons (.s 1 65) (.cons (.s 1 122) (.cons (.sl 3236 0 1 1) .nil)))) 4 103),
  (3236, .cells (.cons (.i .i64 (.ofNat 14)) (.cons (.i .i32 (.ofNat 0)) (.cons (.s 0 0) (.cons (.s 0 0) (.cons (.s 1 66) (.cons (.gs 3227 1) (.cons (.s 0 0) (.cons (.i .i64 (.ofNat 0)) .nil)))))))) 30),
  (3227, .grow (.cons (.i .i64 (.ofNat 1)) (.cons (.i .i32 (.ofNat 2)) (.cons (.s 0 0) (.cons (.s 0 0) (.cons (.s 0 0) (.cons .ns (.cons (.s 0 0) (.cons (.i .i64 (.ofNat 0)) .nil)))))))) 8 30),
  (3429, .grow (.cons (.b true) (.cons (.b false) (.cons (.s 4 1684631414) (.cons (.s 2 12660) (.cons .ns (.cons (.gs 3379 4) (.cons (.b true) (.cons (.b false) (.cons (.s 4 1684631414) (.cons (.s 2 12916) (.cons .ns 
    (.cons (.gs 3427 1) .nil)))))))))))) 6 100),
  (3379, .grow (.cons (.i .i64 (.ofNat 1)) (.cons (.i .i32 (.ofNat 0)) (.cons (.s 1 65) (.cons (.s 1 111) (.cons (.sl 3263 0 1 1) (.cons .ns (.cons .ns (.cons .ns (.cons (.i .i64 (.ofNat 0)) (.cons (.i .i64 (.ofNat 7)) 
    (.cons (.i .i32 (.ofNat 0)) (.cons (.s 0 0) (.cons (.s 0 0) (.cons (.sl 3311 0 1 1) (.cons .ns (.cons .ns (.cons .ns (.cons (.i .i64 (.ofNat 0)) (.cons (.i .i64 (.ofNat 3)) (.cons (.i .i32 (.ofNat 0)) (.cons (.s 0 0) 
    (.cons (.s 0 0) (.cons (.sl 3339 0 1 1) (.cons .ns (.cons .ns (.cons .ns (.cons (.i .i64 (.ofNat 0)) (.cons (.i .i64 (.ofNat 8)) (.cons (.i .i32 (.ofNat 1)) (.cons (.s 0 0) (.cons (.s 0 0) (.cons (.sl 3377 0 1 1) (.cons 
    .ns (.cons .ns (.cons .ns (.cons (.i .i64 (.ofNat 0)) .nil)))))))))))))))))))))))))))))))))))) 9 133),
  (3263, .cells (.cons (.i .i64 (.ofNat 9)) (.cons (.i .i32 (.ofNat 0)) (.cons (.s 0 0) (.cons (.s 1 122) (.cons (.s 1 84) (.cons .ns (.cons (.s 0 0) (.cons (.i .i64 (.ofNat 0)) .nil)))))))) 30),
  (3311, .cells (.cons (.i .i64 (.ofNat 10)) (.cons (.i .i32 (.ofNat 0)) (.cons (.s 0 0) (.cons (.s 1 102) (.cons (.s 0 0) (.cons (.gs 3304 2) (.cons (.s 0 0) (.cons (.i .i64 (.ofNat 0)) .nil)))))))) 30),
  (3304, .grow (.cons (.i .i64 (.ofNat 6)) (.cons (.i .i32 (.ofNat 0)) (.cons (.s 0 0) (.cons (.s 1 111) (.cons (.s 0 0) (.cons .ns (.cons (.s 0 0) (.cons (.i .i64 (.ofNat 0)) (.cons (.i .i64 (.ofNat 1)) (.cons (.i .i32 
    (.ofNat 3)) (.cons (.s 0 0) (.cons (.s 0 0) (.cons (.s 0 0) (.cons .ns (.cons (.s 0 0) (.cons (.i .i64 (.ofNat 0)) .nil)))))))))))))))) 8 30),
  (3339, .cells (.cons (.i .i64 (.ofNat 10)) (.cons (.i .i32 (.ofNat 0)) (.cons (.s 0 0) (.cons (.s 2 12903) (.cons (.s 0 0) (.cons (.sl 3331 0 1 1) (.cons (.s 0 0) (.cons (.i .i64 (.ofNat 0)) .nil)))))))) 30),
  (3331, .cells (.cons (.i .i64 (.ofNat 6)) (.cons (.i .i32 (.ofNat 0)) (.cons (.s 0 0) (.cons (.s 1 111) (.cons (.s 0 0) (.cons .ns (.cons (.s 0 0) (.cons (.i .i64 (.ofNat 0)) .nil)))))))) 30),
  (3377, .cells (.cons (.i .i64 (.ofNat 17)) (.cons (.i .i32 (.ofNat 0)) (.cons (.s 0 0) (.cons (.s 1 60) (.cons (.s 0 0) (.cons (.sl 3373 0 2 2) (.cons (.s 0 0) (.cons (.i .i64 (.ofNat 0)) .nil)))))))) 30),
  (3373, .cells (.cons (.i .i64 (.ofNat 7)) (.cons (.i .i32 (.ofNat 0)) (.cons (.s 0 0) (.cons (.s 1 120) (.cons (.s 0 0) (.cons (.sl 3359 0 1 1) (.cons (.s 0 0) (.cons (.i .i64 (.ofNat 0)) (.cons (.i .i64 (.ofNat 1)) 
    (.cons (.i .i32 (.ofNat 9)) (.cons (.s 0 0) (.cons (.s 0 0) (.cons (.s 0 0) (.cons .ns (.cons (.s 0 0) (.cons (.i .i64 (.ofNat 0)) .nil)))))))))))))))) 30),
  (3359, .cells (.cons (.i .i64 (.ofNat 6)) (.cons (.i .i32 (.ofNat 0)) (.cons (.s 0 0) (.cons (.s 1 111) (.cons (.s 0 0) (.cons .ns (.cons (.s 0 0) (.cons (.i .i64 (.ofNat 0)) .nil)))))))) 30),
  (3427, .grow (.cons (.i .i64 (.ofNat 1)) (.cons (.i .i32 (.ofNat 0)) (.cons (.s 1 65) (.cons (.s 1 111) (.cons (.sl 3425 0 1 1) (.cons .ns (.cons .ns (.cons .ns (.cons (.i .i64 (.ofNat 0)) .nil))))))))) 9 133),
  (3425, .cells (.cons (.i .i64 (.ofNat 14)) (.cons (.i .i32 (.ofNat 0)) (.cons (.s 0 0) (.cons (.s 0 0) (.cons (.s 1 66) (.cons (.gs 3416 1) (.cons (.s 0 0) (.cons (.i .i64 (.ofNat 0)) .nil)))))))) 30),
  (3416, .grow (.cons (.i .i64 (.ofNat 1)) (.cons (.i .i32 (.ofNat 2)) (.cons (.s 0 0) (.cons (.s 0 0) (.cons (.s 0 0) (.cons .ns (.cons (.s 0 0) (.cons (.i .i64 (.ofNat 0)) .nil)))))))) 8 30)]
def tspN : Nat := 3634
theorem tsp_is : isX (fvC Tryz.prog tsX tsG tsK0 10000 (.fn 8) tspA (layB idN tspL heap0) tspX) tspV tspL tspB tspX tspN = true := by decide +kernel
noncomputable def tspK : Caller := knownX 8 tspA tspL tspX tspV tspB tspN
theorem tspK_ok : CallOk Tryz.prog tspK := knownX_ok tsG_ok (Checked.mixed Tryz.checked) tsX_ok tsK0_ok (by decide +kernel) tsp_is
end Go.Proofs.YtgipddojcgnbkaaGreatDoor
