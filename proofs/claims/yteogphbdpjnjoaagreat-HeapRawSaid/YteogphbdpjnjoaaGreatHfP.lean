/- Law 15: calls that it makes, by running them. -/
import Derived.Test.YteogphbdpjnjoaaGreatHfA
set_option linter.unusedSimpArgs false
set_option linter.unusedVariables false
set_option maxRecDepth 1000000
namespace Go.Proofs.YteogphbdpjnjoaaGreat
open Go.RowKit

def hfpA : AVs := (.cons (.s 558 
    25726785782137880062941100926480372446722205862188634346077869918694414021290958037425524084925673286753363916713107324078039356391261392841331573908642490508960530532869137127130819300035779820968224365984944703950291777110764176306760167706342193288641757279585973032341606383000503826835002475236994344615919580049945435515670319658156114461580355437534507187420645559371398281940019794744619404598162778491017405671699348562173559300776744935913909490491047062114024546191239873926315011759330437095499743273225261148231573358190444884514342733856162770283798312796018219923950296437014355523391386863949612319509808734639614414580282826397862100391830759976533733426220022722929466788833031518319294446296459488625092778290324891197559286836535118008281655292143066835304267241266040943917651232821222161668036087040194234274448648797872539717120830047496504021587698769767954291512635884018897880315432623606187602309884684795235310467512867316725869321394385532381440905961132412290999469243729141374179128348643044308582003854124778203818780431304808777203579269900822830854905553379097837639539820116236032008922475283780974919720386880761828598714457760273686609239813082764129514275313426336518231896983114192882292046052632409461085385581044402958320479766691969699219236849104657149795934264868842801832994394678912891974934686819) 
    .nil)
def hfpL : List (Nat × KOb) := []
abbrev hfpX : Nat := 10
def hfpV : AV := (.tup (.cons (.agg (.cons (.gs 3430 3) .nil)) (.cons (.i .i64 (.ofNat 0)) (.cons (.i .i64 (.ofNat 0)) .nil))))
def hfpB : List (Nat × KOb) := [
  (3430, .grow (.cons (.s 1 65) (.cons (.s 0 0) (.cons (.gs 2706 4) (.cons (.gs 2954 6) (.cons (.s 1 66) (.cons (.s 1 65) (.cons (.gs 2988 3) (.cons (.gs 3191 4) (.cons (.s 1 84) (.cons (.s 0 0) (.cons (.gs 3237 1) (.cons 
    (.gs 3428 2) .nil)))))))))))) 4 51),
  (2706, .grow (.cons (.b false) (.cons (.s 3 7630441) (.cons (.s 1 120) (.cons (.sl 2654 0 1 1) (.cons (.b true) (.cons (.s 3 7630441) (.cons (.s 1 115) (.cons (.sl 2677 0 1 1) (.cons (.b false) (.cons (.s 1 65) (.cons 
    (.s 1 110) (.cons .ns (.cons (.b false) (.cons (.s 6 113723913172051) (.cons (.s 1 119) (.cons (.sl 2704 0 1 1) .nil)))))))))))))))) 4 55),
  (2654, .cells (.cons (.i .i64 (.ofNat 1)) (.cons (.i .i32 (.ofNat 1)) (.cons (.s 0 0) (.cons (.s 0 0) (.cons (.s 0 0) (.cons .ns (.cons (.s 0 0) (.cons (.i .i64 (.ofNat 0)) .nil)))))))) 94),
  (2677, .cells (.cons (.i .i64 (.ofNat 1)) (.cons (.i .i32 (.ofNat 2)) (.cons (.s 0 0) (.cons (.s 0 0) (.cons (.s 0 0) (.cons .ns (.cons (.s 0 0) (.cons (.i .i64 (.ofNat 0)) .nil)))))))) 94),
  (2704, .cells (.cons (.i .i64 (.ofNat 3)) (.cons (.i .i32 (.ofNat 0)) (.cons (.s 1 119) (.cons (.s 0 0) (.cons (.s 0 0) (.cons .ns (.cons (.s 0 0) (.cons (.i .i64 (.ofNat 0)) .nil)))))))) 94),
  (2954, .grow (.cons (.b false) (.cons (.b true) (.cons (.s 0 0) (.cons (.s 0 0) (.cons .ns (.cons (.gs 2751 1) (.cons (.b false) (.cons (.b false) (.cons (.s 3 7630441) (.cons (.s 1 102) (.cons (.gs 2757 1) (.cons (.gs 
    2809 2) (.cons (.b false) (.cons (.b false) (.cons (.s 3 7630441) (.cons (.s 1 102) (.cons (.gs 2815 1) (.cons (.gs 2839 1) (.cons (.b false) (.cons (.b false) (.cons (.s 3 7630441) (.cons (.s 1 102) (.cons (.gs 2848 2) 
    (.cons (.gs 2885 1) (.cons (.b false) (.cons (.b false) (.cons (.s 4 1684631414) (.cons (.s 2 12903) (.cons .ns (.cons (.gs 2912 1) (.cons (.b true) (.cons (.b false) (.cons (.s 3 7630441) (.cons (.s 1 107) (.cons (.gs 
    2918 1) (.cons (.gs 2952 1) .nil)))))))))))))))))))))))))))))))))))) 6 60),
  (2751, .grow (.cons (.i .i64 (.ofNat 2)) (.cons (.i .i32 (.ofNat 0)) (.cons (.s 0 0) (.cons (.s 0 0) (.cons (.sl 2749 0 2 2) (.cons .ns (.cons .ns (.cons .ns (.cons (.i .i64 (.ofNat 0)) .nil))))))))) 9 96),
  (2749, .cells (.cons (.i .i64 (.ofNat 6)) (.cons (.i .i32 (.ofNat 0)) (.cons (.s 0 0) (.cons (.s 1 120) (.cons (.s 0 0) (.cons .ns (.cons (.s 0 0) (.cons (.i .i64 (.ofNat 0)) (.cons (.i .i64 (.ofNat 1)) (.cons (.i .i32 
    (.ofNat 5)) (.cons (.s 0 0) (.cons (.s 0 0) (.cons (.s 0 0) (.cons .ns (.cons (.s 0 0) (.cons (.i .i64 (.ofNat 0)) .nil)))))))))))))))) 94),
  (2757, .grow (.cons (.s 3 7630441) (.cons (.s 1 97) .nil)) 2 178),
  (2809, .grow (.cons (.i .i64 (.ofNat 1)) (.cons (.i .i32 (.ofNat 0)) (.cons (.s 1 65) (.cons (.s 1 111) (.cons (.sl 2782 0 1 1) (.cons .ns (.cons .ns (.cons .ns (.cons (.i .i64 (.ofNat 0)) (.cons (.i .i64 (.ofNat 6)) 
    (.cons (.i .i32 (.ofNat 0)) (.cons (.s 0 0) (.cons (.s 0 0) (.cons (.sl 2807 0 1 1) (.cons .ns (.cons .ns (.cons .ns (.cons (.i .i64 (.ofNat 0)) .nil)))))))))))))))))) 9 96),
  (2782, .cells (.cons (.i .i64 (.ofNat 6)) (.cons (.i .i32 (.ofNat 0)) (.cons (.s 0 0) (.cons (.s 1 110) (.cons (.s 0 0) (.cons .ns (.cons (.s 0 0) (.cons (.i .i64 (.ofNat 0)) .nil)))))))) 94),
  (2807, .cells (.cons (.i .i64 (.ofNat 6)) (.cons (.i .i32 (.ofNat 0)) (.cons (.s 0 0) (.cons (.s 1 120) (.cons (.s 0 0) (.cons .ns (.cons (.s 0 0) (.cons (.i .i64 (.ofNat 0)) .nil)))))))) 94),
  (2815, .grow (.cons (.s 1 65) (.cons (.s 1 111) .nil)) 2 178),
  (2839, .grow (.cons (.i .i64 (.ofNat 6)) (.cons (.i .i32 (.ofNat 0)) (.cons (.s 0 0) (.cons (.s 0 0) (.cons (.sl 2837 0 1 1) (.cons .ns (.cons .ns (.cons .ns (.cons (.i .i64 (.ofNat 0)) .nil))))))))) 9 96),
  (2837, .cells (.cons (.i .i64 (.ofNat 1)) (.cons (.i .i32 (.ofNat 1)) (.cons (.s 0 0) (.cons (.s 0 0) (.cons (.s 0 0) (.cons .ns (.cons (.s 0 0) (.cons (.i .i64 (.ofNat 0)) .nil)))))))) 94),
  (2848, .grow (.cons (.s 3 7630441) (.cons (.s 1 97) (.cons (.s 3 7630441) (.cons (.s 1 98) .nil)))) 2 178),
  (2885, .grow (.cons (.i .i64 (.ofNat 6)) (.cons (.i .i32 (.ofNat 0)) (.cons (.s 0 0) (.cons (.s 0 0) (.cons (.sl 2883 0 1 1) (.cons .ns (.cons .ns (.cons .ns (.cons (.i .i64 (.ofNat 0)) .nil))))))))) 9 96),
  (2883, .cells (.cons (.i .i64 (.ofNat 17)) (.cons (.i .i32 (.ofNat 0)) (.cons (.s 0 0) (.cons (.s 1 45) (.cons (.s 0 0) (.cons (.sl 2878 0 2 2) (.cons (.s 0 0) (.cons (.i .i64 (.ofNat 0)) .nil)))))))) 94),
  (2878, .cells (.cons (.i .i64 (.ofNat 6)) (.cons (.i .i32 (.ofNat 0)) (.cons (.s 0 0) (.cons (.s 1 97) (.cons (.s 0 0) (.cons .ns (.cons (.s 0 0) (.cons (.i .i64 (.ofNat 0)) (.cons (.i .i64 (.ofNat 6)) (.cons (.i .i32 
    (.ofNat 0)) (.cons (.s 0 0) (.cons (.s 1 98) (.cons (.s 0 0) (.cons .ns (.cons (.s 0 0) (.cons (.i .i64 (.ofNat 0)) .nil)))))))))))))))) 94),
  (2912, .grow (.cons (.i .i64 (.ofNat 7)) (.cons (.i .i32 (.ofNat 0)) (.cons (.s 0 0) (.cons (.s 0 0) (.cons (.sl 2910 0 1 1) (.cons .ns (.cons .ns (.cons .ns (.cons (.i .i64 (.ofNat 0)) .nil))))))))) 9 96),
  (2910, .cells (.cons (.i .i64 (.ofNat 3)) (.cons (.i .i32 (.ofNat 0)) (.cons (.s 1 65) (.cons (.s 0 0) (.cons (.s 0 0) (.cons .ns (.cons (.s 0 0) (.cons (.i .i64 (.ofNat 0)) .nil)))))))) 94),
  (2918, .grow (.cons (.s 3 7630441) (.cons (.s 1 97) .nil)) 2 178),
  (2952, .grow (.cons (.i .i64 (.ofNat 6)) (.cons (.i .i32 (.ofNat 0)) (.cons (.s 0 0) (.cons (.s 0 0) (.cons (.sl 2950 0 1 1) (.cons .ns (.cons .ns (.cons .ns (.cons (.i .i64 (.ofNat 0)) .nil))))))))) 9 96),
  (2950, .cells (.cons (.i .i64 (.ofNat 17)) (.cons (.i .i32 (.ofNat 0)) (.cons (.s 0 0) (.cons (.s 1 42) (.cons (.s 0 0) (.cons (.sl 2944 0 2 2) (.cons (.s 0 0) (.cons (.i .i64 (.ofNat 0)) .nil)))))))) 94),
  (2944, .cells (.cons (.i .i64 (.ofNat 6)) (.cons (.i .i32 (.ofNat 0)) (.cons (.s 0 0) (.cons (.s 1 97) (.cons (.s 0 0) (.cons .ns (.cons (.s 0 0) (.cons (.i .i64 (.ofNat 0)) (.cons (.i .i64 (.ofNat 9)) (.cons (.i .i32 
    (.ofNat 0)) (.cons (.s 0 0) (.cons (.s 1 115) (.cons (.s 1 65) (.cons .ns (.cons (.s 0 0) (.cons (.i .i64 (.ofNat 0)) .nil)))))))))))))))) 94),
  (2988, .grow (.cons (.b false) (.cons (.s 3 7630441) (.cons (.s 1 120) (.cons (.sl 2978 0 1 1) (.cons (.b false) (.cons (.s 3 7630441) (.cons (.s 1 121) (.cons .ns (.cons (.b false) (.cons (.s 1 66) (.cons (.s 1 109) 
    (.cons .ns .nil)))))))))))) 4 55),
  (2978, .cells (.cons (.i .i64 (.ofNat 1)) (.cons (.i .i32 (.ofNat 7)) (.cons (.s 0 0) (.cons (.s 0 0) (.cons (.s 0 0) (.cons .ns (.cons (.s 0 0) (.cons (.i .i64 (.ofNat 0)) .nil)))))))) 94),
  (3191, .grow (.cons (.b false) (.cons (.b true) (.cons (.s 0 0) (.cons (.s 0 0) (.cons (.gs 2991 1) (.cons (.gs 3042 2) (.cons (.b false) (.cons (.b true) (.cons (.s 0 0) (.cons (.s 0 0) (.cons .ns (.cons .ns (.cons (.b 
    false) (.cons (.b false) (.cons (.s 3 7630441) (.cons (.s 1 102) (.cons (.gs 3051 1) (.cons (.gs 3112 2) (.cons (.b false) (.cons (.b false) (.cons (.s 4 1684631414) (.cons (.s 2 12903) (.cons .ns (.cons (.gs 3189 3) 
    .nil)))))))))))))))))))))))) 6 60),
  (2991, .grow (.cons (.s 3 7630441) (.cons (.s 1 97) .nil)) 2 178),
  (3042, .grow (.cons (.i .i64 (.ofNat 11)) (.cons (.i .i32 (.ofNat 0)) (.cons (.s 0 0) (.cons (.s 0 0) (.cons .ns (.cons .ns (.cons .ns (.cons .ns (.cons (.i .i64 (.ofNat 0)) (.cons (.i .i64 (.ofNat 2)) (.cons (.i .i32 
    (.ofNat 0)) (.cons (.s 0 0) (.cons (.s 0 0) (.cons (.sl 3040 0 2 2) (.cons .ns (.cons .ns (.cons .ns (.cons (.i .i64 (.ofNat 0)) .nil)))))))))))))))))) 9 96),
  (3040, .cells (.cons (.i .i64 (.ofNat 6)) (.cons (.i .i32 (.ofNat 0)) (.cons (.s 0 0) (.cons (.s 1 121) (.cons (.s 0 0) (.cons .ns (.cons (.s 0 0) (.cons (.i .i64 (.ofNat 0)) (.cons (.i .i64 (.ofNat 6)) (.cons (.i .i32 
    (.ofNat 0)) (.cons (.s 0 0) (.cons (.s 1 97) (.cons (.s 0 0) (.cons .ns (.cons (.s 0 0) (.cons (.i .i64 (.ofNat 0)) .nil)))))))))))))))) 94),
  (3051, .grow (.cons (.s 3 7630441) (.cons (.s 1 97) .nil)) 2 178),
  (3112, .grow (.cons (.i .i64 (.ofNat 1)) (.cons (.i .i32 (.ofNat 0)) (.cons (.s 1 65) (.cons (.s 1 111) (.cons (.sl 3074 0 1 1) (.cons .ns (.cons .ns (.cons .ns (.cons (.i .i64 (.ofNat 0)) (.cons (.i .i64 (.ofNat 6)) 
    (.cons (.i .i32 (.ofNat 0)) (.cons (.s 0 0) (.cons (.s 0 0) (.cons (.sl 3110 0 1 1) (.cons .ns (.cons .ns (.cons .ns (.cons (.i .i64 (.ofNat 0)) .nil)))))))))))))))))) 9 96),
  (3074, .cells (.cons (.i .i64 (.ofNat 5)) (.cons (.i .i32 (.ofNat 0)) (.cons (.s 0 0) (.cons (.s 0 0) (.cons (.s 0 0) (.cons .ns (.cons (.s 0 0) (.cons (.i .i64 (.ofNat 0)) .nil)))))))) 94),
  (3110, .cells (.cons (.i .i64 (.ofNat 17)) (.cons (.i .i32 (.ofNat 0)) (.cons (.s 0 0) (.cons (.s 1 43) (.cons (.s 0 0) (.cons (.sl 3105 0 2 2) (.cons (.s 0 0) (.cons (.i .i64 (.ofNat 0)) .nil)))))))) 94),
  (3105, .cells (.cons (.i .i64 (.ofNat 6)) (.cons (.i .i32 (.ofNat 0)) (.cons (.s 0 0) (.cons (.s 1 121) (.cons (.s 0 0) (.cons .ns (.cons (.s 0 0) (.cons (.i .i64 (.ofNat 0)) (.cons (.i .i64 (.ofNat 6)) (.cons (.i .i32 
    (.ofNat 0)) (.cons (.s 0 0) (.cons (.s 1 97) (.cons (.s 0 0) (.cons .ns (.cons (.s 0 0) (.cons (.i .i64 (.ofNat 0)) .nil)))))))))))))))) 94),
  (3189, .grow (.cons (.i .i64 (.ofNat 7)) (.cons (.i .i32 (.ofNat 0)) (.cons (.s 0 0) (.cons (.s 0 0) (.cons (.sl 3137 0 1 1) (.cons .ns (.cons .ns (.cons .ns (.cons (.i .i64 (.ofNat 0)) (.cons (.i .i64 (.ofNat 3)) (.cons 
    (.i .i32 (.ofNat 0)) (.cons (.s 0 0) (.cons (.s 0 0) (.cons (.sl 3162 0 1 1) (.cons .ns (.cons .ns (.cons .ns (.cons (.i .i64 (.ofNat 0)) (.cons (.i .i64 (.ofNat 7)) (.cons (.i .i32 (.ofNat 0)) (.cons (.s 0 0) (.cons (.s 
    0 0) (.cons (.sl 3187 0 1 1) (.cons .ns (.cons .ns (.cons .ns (.cons (.i .i64 (.ofNat 0)) .nil))))))))))))))))))))))))))) 9 96),
  (3137, .cells (.cons (.i .i64 (.ofNat 3)) (.cons (.i .i32 (.ofNat 0)) (.cons (.s 1 66) (.cons (.s 0 0) (.cons (.s 0 0) (.cons .ns (.cons (.s 0 0) (.cons (.i .i64 (.ofNat 0)) .nil)))))))) 94),
  (3162, .cells (.cons (.i .i64 (.ofNat 12)) (.cons (.i .i32 (.ofNat 0)) (.cons (.s 0 0) (.cons (.s 2 12903) (.cons (.s 0 0) (.cons .ns (.cons (.s 0 0) (.cons (.i .i64 (.ofNat 0)) .nil)))))))) 94),
  (3187, .cells (.cons (.i .i64 (.ofNat 6)) (.cons (.i .i32 (.ofNat 0)) (.cons (.s 0 0) (.cons (.s 1 121) (.cons (.s 0 0) (.cons .ns (.cons (.s 0 0) (.cons (.i .i64 (.ofNat 0)) .nil)))))))) 94),
  (3237, .grow (.cons (.b true) (.cons (.s 1 65) (.cons (.s 1 122) (.cons (.sl 3235 0 1 1) .nil)))) 4 55),
  (3235, .cells (.cons (.i .i64 (.ofNat 14)) (.cons (.i .i32 (.ofNat 0)) (.cons (.s 0 0) (.cons (.s 0 0) (.cons (.s 1 66) (.cons (.gs 3226 1) (.cons (.s 0 0) (.cons (.i .i64 (.ofNat 0)) .nil)))))))) 94),
  (3226, .grow (.cons (.i .i64 (.ofNat 1)) (.cons (.i .i32 (.ofNat 2)) (.cons (.s 0 0) (.cons (.s 0 0) (.cons (.s 0 0) (.cons .ns (.cons (.s 0 0) (.cons (.i .i64 (.ofNat 0)) .nil)))))))) 8 94),
  (3428, .grow (.cons (.b true) (.cons (.b false) (.cons (.s 4 1684631414) (.cons (.s 2 12660) (.cons .ns (.cons (.gs 3378 4) (.cons (.b true) (.cons (.b false) (.cons (.s 4 1684631414) (.cons (.s 2 12916) (.cons .ns 
    (.cons (.gs 3426 1) .nil)))))))))))) 6 60),
  (3378, .grow (.cons (.i .i64 (.ofNat 1)) (.cons (.i .i32 (.ofNat 0)) (.cons (.s 1 65) (.cons (.s 1 111) (.cons (.sl 3262 0 1 1) (.cons .ns (.cons .ns (.cons .ns (.cons (.i .i64 (.ofNat 0)) (.cons (.i .i64 (.ofNat 7)) 
    (.cons (.i .i32 (.ofNat 0)) (.cons (.s 0 0) (.cons (.s 0 0) (.cons (.sl 3310 0 1 1) (.cons .ns (.cons .ns (.cons .ns (.cons (.i .i64 (.ofNat 0)) (.cons (.i .i64 (.ofNat 3)) (.cons (.i .i32 (.ofNat 0)) (.cons (.s 0 0) 
    (.cons (.s 0 0) (.cons (.sl 3338 0 1 1) (.cons .ns (.cons .ns (.cons .ns (.cons (.i .i64 (.ofNat 0)) (.cons (.i .i64 (.ofNat 8)) (.cons (.i .i32 (.ofNat 1)) (.cons (.s 0 0) (.cons (.s 0 0) (.cons (.sl 3376 0 1 1) (.cons 
    .ns (.cons .ns (.cons .ns (.cons (.i .i64 (.ofNat 0)) .nil)))))))))))))))))))))))))))))))))))) 9 96),
  (3262, .cells (.cons (.i .i64 (.ofNat 9)) (.cons (.i .i32 (.ofNat 0)) (.cons (.s 0 0) (.cons (.s 1 122) (.cons (.s 1 84) (.cons .ns (.cons (.s 0 0) (.cons (.i .i64 (.ofNat 0)) .nil)))))))) 94),
  (3310, .cells (.cons (.i .i64 (.ofNat 10)) (.cons (.i .i32 (.ofNat 0)) (.cons (.s 0 0) (.cons (.s 1 102) (.cons (.s 0 0) (.cons (.gs 3303 2) (.cons (.s 0 0) (.cons (.i .i64 (.ofNat 0)) .nil)))))))) 94),
  (3303, .grow (.cons (.i .i64 (.ofNat 6)) (.cons (.i .i32 (.ofNat 0)) (.cons (.s 0 0) (.cons (.s 1 111) (.cons (.s 0 0) (.cons .ns (.cons (.s 0 0) (.cons (.i .i64 (.ofNat 0)) (.cons (.i .i64 (.ofNat 1)) (.cons (.i .i32 
    (.ofNat 3)) (.cons (.s 0 0) (.cons (.s 0 0) (.cons (.s 0 0) (.cons .ns (.cons (.s 0 0) (.cons (.i .i64 (.ofNat 0)) .nil)))))))))))))))) 8 94),
  (3338, .cells (.cons (.i .i64 (.ofNat 10)) (.cons (.i .i32 (.ofNat 0)) (.cons (.s 0 0) (.cons (.s 2 12903) (.cons (.s 0 0) (.cons (.sl 3330 0 1 1) (.cons (.s 0 0) (.cons (.i .i64 (.ofNat 0)) .nil)))))))) 94),
  (3330, .cells (.cons (.i .i64 (.ofNat 6)) (.cons (.i .i32 (.ofNat 0)) (.cons (.s 0 0) (.cons (.s 1 111) (.cons (.s 0 0) (.cons .ns (.cons (.s 0 0) (.cons (.i .i64 (.ofNat 0)) .nil)))))))) 94),
  (3376, .cells (.cons (.i .i64 (.ofNat 17)) (.cons (.i .i32 (.ofNat 0)) (.cons (.s 0 0) (.cons (.s 1 60) (.cons (.s 0 0) (.cons (.sl 3372 0 2 2) (.cons (.s 0 0) (.cons (.i .i64 (.ofNat 0)) .nil)))))))) 94),
  (3372, .cells (.cons (.i .i64 (.ofNat 7)) (.cons (.i .i32 (.ofNat 0)) (.cons (.s 0 0) (.cons (.s 1 120) (.cons (.s 0 0) (.cons (.sl 3358 0 1 1) (.cons (.s 0 0) (.cons (.i .i64 (.ofNat 0)) (.cons (.i .i64 (.ofNat 1)) 
    (.cons (.i .i32 (.ofNat 9)) (.cons (.s 0 0) (.cons (.s 0 0) (.cons (.s 0 0) (.cons .ns (.cons (.s 0 0) (.cons (.i .i64 (.ofNat 0)) .nil)))))))))))))))) 94),
  (3358, .cells (.cons (.i .i64 (.ofNat 6)) (.cons (.i .i32 (.ofNat 0)) (.cons (.s 0 0) (.cons (.s 1 111) (.cons (.s 0 0) (.cons .ns (.cons (.s 0 0) (.cons (.i .i64 (.ofNat 0)) .nil)))))))) 94),
  (3426, .grow (.cons (.i .i64 (.ofNat 1)) (.cons (.i .i32 (.ofNat 0)) (.cons (.s 1 65) (.cons (.s 1 111) (.cons (.sl 3424 0 1 1) (.cons .ns (.cons .ns (.cons .ns (.cons (.i .i64 (.ofNat 0)) .nil))))))))) 9 96),
  (3424, .cells (.cons (.i .i64 (.ofNat 14)) (.cons (.i .i32 (.ofNat 0)) (.cons (.s 0 0) (.cons (.s 0 0) (.cons (.s 1 66) (.cons (.gs 3415 1) (.cons (.s 0 0) (.cons (.i .i64 (.ofNat 0)) .nil)))))))) 94),
  (3415, .grow (.cons (.i .i64 (.ofNat 1)) (.cons (.i .i32 (.ofNat 2)) (.cons (.s 0 0) (.cons (.s 0 0) (.cons (.s 0 0) (.cons .ns (.cons (.s 0 0) (.cons (.i .i64 (.ofNat 0)) .nil)))))))) 8 94)]
def hfpN : Nat := 3633
theorem hfp_is : isX (fvC Tryz.prog hfX hfG hfK0 10000 (.fn 25) hfpA (layB idN hfpL heap0) hfpX) hfpV hfpL hfpB hfpX hfpN = true := by decide +kernel
noncomputable def hfpK : Caller := knownX 25 hfpA hfpL hfpX hfpV hfpB hfpN
theorem hfpK_ok : CallOk Tryz.prog hfpK := knownX_ok hfG_ok (Checked.mixed Tryz.checked) hfX_ok hfK0_ok (by decide +kernel) hfp_is
end Go.Proofs.YteogphbdpjnjoaaGreat
