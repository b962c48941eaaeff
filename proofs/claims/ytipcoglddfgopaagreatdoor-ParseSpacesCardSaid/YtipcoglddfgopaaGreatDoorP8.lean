/- Parts of the proof: SrcA, SrcP, SrcB, SrcC, SrcD, SrcE, SrcQ, SrcR, SrcS, SrcU. -/
import Derived.Test.YtipcoglddfgopaaGreatDoorP1
import Derived.Deep.QuietTactic
import Derived.BigQuiet
import Derived.WalkSmall
import Derived.BigCall
import Derived.Laws.OwnMore
import Derived.Maps.AppendAt
import Derived.Deep.Cut
import Derived.Deep.CutRange
set_option maxHeartbeats 4000000
set_option maxRecDepth 100000
namespace Go.Proofs.YtipcoglddfgopaaGreatDoor
set_option linter.unusedSimpArgs false
set_option linter.unusedVariables false
section
open Go.RowKit
theorem whichS (a : Int) (m : Nat) (hm : 0 < m) (hm2 : m < 9223372036854775808) : ∃ (x : Int) (i : Nat), IntKind.u64.wrap a = x ∧ x.tmod m = (i : Int) ∧ i < m ∧ IntKind.u64.wrap (i : Int) = i ∧ IntKind.i64.wrap (i : Int) = i ∧ IntKind.u64.wrap (m : Int) = m := by
 have h0 : 0 ≤ IntKind.u64.wrap a := by rw [IntKind.wrap_u64]; omega
 refine ⟨IntKind.u64.wrap a, (IntKind.u64.wrap a).toNat % m, rfl, ?_, Nat.mod_lt _ hm, ?_, ?_, ?_⟩
 · rw [Int.tmod_eq_emod_of_nonneg h0, Int.natCast_emod, Int.toNat_of_nonneg h0]
 · have := Nat.mod_lt (IntKind.u64.wrap a).toNat hm; rw [IntKind.wrap_u64]; omega
 · have := Nat.mod_lt (IntKind.u64.wrap a).toNat hm; rw [IntKind.wrap_i64]; omega
 · rw [IntKind.wrap_u64]; omega
def Li (w : World) (v : Value) : Prop := ∃ (A : Option Addr) (n cap : Nat), v = .slice A n cap ∧ n ≤ maxLen ∧ ∀ j, j < n → ∃ (b o : Nat) (z : Int), A = some ⟨b, o, none⟩ ∧ w.cell? ⟨b, o + j, none⟩ = some (.int .i64 z)
def Ll (w : World) (v : Value) : Prop := ∃ (A : Option Addr) (n cap : Nat), v = .slice A n cap ∧ n ≤ maxLen ∧ ∀ j, j < n → ∃ (b o : Nat) (u : Value), A = some ⟨b, o, none⟩ ∧ w.cell? ⟨b, o + j, none⟩ = some u ∧ Li w u
theorem Li.nil (w : World) : Li w (.slice none 0 0) := ⟨none, 0, 0, rfl, Nat.zero_le _, fun j hj => by omega⟩
theorem srcAt_any (w : World) (v : Value) (i : Nat) (hi : i < 100) (h : Ll w v) : Calls Tryz.prog 9 #[v, .int .i64 i] w fun e w' => (∃ u, e = .returned u ∧ Li w u) ∧ w = w' := by
 obtain ⟨A, n, cap, rfl, hn, hc⟩ := h
 by_cases h : i < n
 · obtain ⟨b, o, u, rfl, hu, hl⟩ := hc i h
   have h' : (i : Int) < n := by omega
   have HL := Lib.hid hl
   clear hl hc
   obtain ⟨A2, n2, cap2, rfl, _⟩ := id HL.out
   go_enter Tryz.func9, Tryz.ntmps9
   go_wp2_with fail
   go_ret
   exact ⟨⟨_, rfl, HL.out⟩, rfl⟩
 · have h' : (n : Int) ≤ i := by omega
   clear hc
   go_enter Tryz.func9, Tryz.ntmps9
   go_wp2_with fail
   go_ret
   exact ⟨⟨_, rfl, Li.nil _⟩, rfl⟩
end
section
open Go.RowKit
def allI : List ByteArray := [⟨#[120, 32, 61, 32, 97, 32, 43, 32, 49, 59]⟩, ⟨#[112, 114, 105, 110, 116, 32, 120, 59]⟩, ⟨#[116, 104, 105, 115, 46, 120, 32, 61, 32, 120, 32, 42, 32, 50, 59]⟩, ⟨#[110, 32, 61, 32, 111, 59]⟩, ⟨#[110, 32, 61, 32, 110, 59]⟩, ⟨#[110, 32, 61, 32, 110, 101, 119, 32, 65, 40, 41, 59]⟩, ⟨#[105, 102, 32, 40, 120, 32, 60, 32, 97, 41, 32, 123, 32, 120, 32, 61, 32, 120, 32, 43, 32, 49, 59, 32, 125, 32, 101, 108, 115, 101, 32, 123, 32, 112, 114, 105, 110, 116, 32, 34, 110, 111, 34, 59, 32, 125]⟩, ⟨#[119, 104, 105, 108, 101, 32, 40, 120, 32, 60, 32, 51, 41, 32, 123, 32, 120, 32, 61, 32, 120, 32, 43, 32, 49, 59, 32, 112, 114, 105, 110, 116, 32, 120, 59, 32, 125]⟩, ⟨#[115, 32, 61, 32, 115, 32, 43, 32, 49, 59]⟩, ⟨#[65, 58, 58, 115, 32, 61, 32, 97, 59]⟩, ⟨#[116, 114, 121, 32, 123, 32, 112, 114, 105, 110, 116, 32, 111, 46, 102, 40, 97, 41, 59, 32, 125, 32, 99, 97, 116, 99, 104, 32, 40, 78, 117, 108, 108, 70, 97, 117, 108, 116, 32, 101, 41, 32, 123, 32, 112, 114, 105, 110, 116, 32, 34, 110, 117, 108, 108, 34, 59, 32, 125, 32, 102, 105, 110, 97, 108, 108, 121, 32, 123, 32, 120, 32, 61, 32, 48, 59, 32, 125]⟩, ⟨#[105, 102, 32, 40, 97, 32, 60, 32, 48, 41, 32, 123, 32, 116, 104, 114, 111, 119, 32, 110, 101, 119, 32, 90, 101, 114, 111, 70, 97, 117, 108, 116, 40, 41, 59, 32, 125]⟩, ⟨#[112, 114, 105, 110, 116, 32, 55, 32, 47, 32, 97, 59]⟩, ⟨#[105, 102, 32, 40, 48, 32, 60, 32, 97, 41, 32, 123, 32, 112, 114, 105, 110, 116, 32, 102, 40, 97, 32, 45, 32, 49, 41, 59, 32, 125]⟩, ⟨#[97, 115, 115, 101, 114, 116, 32, 51, 32, 120, 32, 60, 32, 57, 59]⟩, ⟨#[112, 114, 105, 110, 116, 32, 111, 32, 105, 115, 32, 65, 59]⟩, ⟨#[105, 102, 32, 40, 116, 114, 117, 101, 41, 32, 123, 32, 105, 110, 116, 32, 118, 32, 61, 32, 102, 40, 110, 41, 59, 32, 112, 114, 105, 110, 116, 32, 118, 59, 32, 125]⟩, ⟨#[112, 114, 105, 110, 116, 32, 119, 32, 43, 32, 120, 32, 43, 32, 116, 114, 117, 101, 59]⟩, ⟨#[112, 114, 105, 110, 116, 32, 34, 104, 195, 169, 121, 34, 32, 64, 32, 97, 59]⟩, ⟨#[112, 114, 105, 110, 116, 32, 35, 119, 59]⟩, ⟨#[112, 114, 105, 110, 116, 32, 102, 40, 97, 44, 32, 50, 41, 59]⟩, ⟨#[116, 104, 105, 115, 46, 103, 50, 40, 41, 59]⟩, ⟨#[112, 114, 105, 110, 116, 32, 65, 58, 58, 107, 40, 97, 41, 59]⟩, ⟨#[116, 114, 121, 32, 123, 32, 116, 104, 114, 111, 119, 32, 110, 101, 119, 32, 82, 97, 110, 103, 101, 70, 97, 117, 108, 116, 40, 41, 59, 32, 125, 32, 99, 97, 116, 99, 104, 32, 40, 69, 120, 99, 101, 112, 116, 105, 111, 110, 32, 101, 41, 32, 123, 32, 110, 32, 61, 32, 110, 117, 108, 108, 59, 32, 125]⟩, ⟨#[65, 32, 113, 32, 61, 32, 110, 59]⟩, ⟨#[112, 114, 105, 110, 116, 32, 45, 97, 32, 37, 32, 51, 59]⟩, ⟨#[112, 114, 105, 110, 116, 32, 110, 32, 61, 61, 32, 111, 32, 38, 38, 32, 33, 40, 97, 32, 60, 61, 32, 50, 41, 59]⟩, ⟨#[112, 114, 105, 110, 116, 32, 40, 111, 32, 97, 115, 32, 65, 41, 46, 120, 59]⟩]
def allS : List ByteArray := [⟨#[112, 114, 105, 110, 116, 32, 115, 117, 112, 101, 114, 46, 120, 59]⟩, ⟨#[120, 32, 61, 32, 115, 117, 112, 101, 114, 46, 102, 40, 97, 41, 59]⟩, ⟨#[115, 117, 112, 101, 114, 46, 103, 50, 40, 41, 59]⟩, ⟨#[121, 32, 61, 32, 121, 32, 43, 32, 49, 59]⟩, ⟨#[109, 32, 61, 32, 110, 101, 119, 32, 66, 40, 97, 41, 59]⟩, ⟨#[110, 32, 61, 32, 109, 59]⟩, ⟨#[112, 114, 105, 110, 116, 32, 40, 110, 32, 97, 115, 32, 66, 41, 46, 121, 59]⟩]
def allO : List ByteArray := [⟨#[112, 114, 105, 110, 116, 32, 111, 46, 102, 40, 50, 41, 59]⟩, ⟨#[112, 114, 105, 110, 116, 32, 111, 46, 102, 40, 111, 41, 59]⟩, ⟨#[112, 114, 105, 110, 116, 32, 111, 46, 102, 40, 49, 44, 32, 50, 41, 59]⟩, ⟨#[111, 46, 103, 50, 40, 41, 59]⟩, ⟨#[111, 46, 110, 32, 61, 32, 111, 59]⟩, ⟨#[112, 114, 105, 110, 116, 32, 111, 46, 110, 46, 120, 59]⟩, ⟨#[112, 114, 105, 110, 116, 32, 65, 58, 58, 115, 59]⟩, ⟨#[97, 115, 115, 101, 114, 116, 32, 50, 32, 65, 58, 58, 107, 40, 51, 41, 32, 60, 32, 55, 59]⟩, ⟨#[116, 114, 121, 32, 123, 32, 111, 46, 110, 46, 103, 50, 40, 41, 59, 32, 125, 32, 99, 97, 116, 99, 104, 32, 40, 78, 117, 108, 108, 70, 97, 117, 108, 116, 32, 101, 41, 32, 123, 32, 112, 114, 105, 110, 116, 32, 34, 110, 34, 59, 32, 125]⟩, ⟨#[119, 104, 105, 108, 101, 32, 40, 65, 58, 58, 115, 32, 60, 32, 53, 41, 32, 123, 32, 65, 58, 58, 115, 32, 61, 32, 65, 58, 58, 115, 32, 43, 32, 49, 59, 32, 125]⟩, ⟨#[112, 114, 105, 110, 116, 32, 111, 46, 119, 32, 43, 32, 35, 111, 46, 119, 59]⟩, ⟨#[112, 114, 105, 110, 116, 32, 111, 32, 105, 115, 32, 65, 59]⟩]
def sA1 : ByteArray := ⟨#[99, 108, 97, 115, 115, 32, 65, 32, 123, 32, 105, 110, 116, 32, 120, 32, 61, 32, 49, 59, 32, 115, 116, 97, 116, 105, 99, 32, 105, 110, 116, 32, 115, 32, 61, 32, 50, 59, 32, 65, 32, 110, 59, 32, 83, 116, 114, 105, 110, 103, 32, 119, 32, 61, 32, 34, 119, 34, 59, 32, 65, 40, 41, 32, 123, 32, 120, 32, 61, 32, 53, 59, 32, 125, 32, 105, 110, 116, 32, 102, 40, 105, 110, 116, 32, 97, 41, 32, 123, 32, 65, 32, 111, 32, 61, 32, 110, 59]⟩
def sA2 : ByteArray := ⟨#[32, 114, 101, 116, 117, 114, 110, 32, 120, 59, 32, 125, 32, 105, 110, 116, 32, 102, 40, 65, 32, 111, 41, 32, 123, 32, 114, 101, 116, 117, 114, 110, 32, 49, 59, 32, 125, 32, 105, 110, 116, 32, 102, 40, 105, 110, 116, 32, 97, 44, 32, 105, 110, 116, 32, 98, 41, 32, 123, 32, 114, 101, 116, 117, 114, 110, 32, 97, 32, 45, 32, 98, 59, 32, 125, 32, 118, 111, 105, 100, 32, 103, 50, 40, 41, 32, 123, 32, 112, 114, 105, 110, 116, 32, 34, 65, 34, 59, 32, 125, 32, 115, 116, 97, 116, 105, 99, 32, 105, 110, 116, 32, 107, 40, 105, 110, 116, 32, 97, 41, 32, 123, 32, 114, 101, 116, 117, 114, 110, 32, 97, 32, 42, 32, 65, 58, 58, 115, 59, 32, 125, 32, 125, 10]⟩
def mA : ByteArray := ⟨#[110, 101, 119, 32, 65, 40, 41]⟩
def sB1 : ByteArray := ⟨#[99, 108, 97, 115, 115, 32, 66, 32, 101, 120, 116, 101, 110, 100, 115, 32, 65, 32, 123, 32, 105, 110, 116, 32, 120, 32, 61, 32, 55, 59, 32, 105, 110, 116, 32, 121, 59, 32, 66, 32, 109, 59, 32, 66, 40, 105, 110, 116, 32, 97, 41, 32, 123, 32, 115, 117, 112, 101, 114, 40, 41, 59, 32, 121, 32, 61, 32, 97, 59, 32, 125, 32, 66, 40, 41, 32, 123, 32, 125, 32, 105, 110, 116, 32, 102, 40, 105, 110, 116, 32, 97, 41, 32, 123, 32, 65, 32, 111, 32, 61, 32, 116, 104, 105, 115, 59]⟩
def sB2 : ByteArray := ⟨#[32, 114, 101, 116, 117, 114, 110, 32, 121, 32, 43, 32, 97, 59, 32, 125, 32, 118, 111, 105, 100, 32, 103, 50, 40, 41, 32, 123, 32, 112, 114, 105, 110, 116, 32, 34, 66, 34, 59, 32, 115, 117, 112, 101, 114, 46, 103, 50, 40, 41, 59, 32, 112, 114, 105, 110, 116, 32, 121, 59, 32, 125, 32, 125, 10]⟩
def mB2 : ByteArray := ⟨#[110, 101, 119, 32, 66, 40, 50, 41]⟩
def mB0 : ByteArray := ⟨#[110, 101, 119, 32, 66, 40, 41]⟩
def sC1 : ByteArray := ⟨#[99, 108, 97, 115, 115, 32, 67, 32, 101, 120, 116, 101, 110, 100, 115, 32, 66, 32, 123, 32, 105, 110, 116, 32, 120, 32, 61, 32, 57, 59, 32, 67, 40, 41, 32, 123, 32, 115, 117, 112, 101, 114, 40, 51, 41, 59, 32, 125, 32, 118, 111, 105, 100, 32, 103, 50, 40, 41, 32, 123, 32, 115, 117, 112, 101, 114, 46, 103, 50, 40, 41, 59, 32, 105, 110, 116, 32, 97, 32, 61, 32, 50, 59, 32, 65, 32, 111, 32, 61, 32, 110, 59]⟩
def sC2 : ByteArray := ⟨#[32, 125, 32, 125, 10]⟩
def rA : ByteArray := ⟨#[65, 32, 111, 32, 61, 32, 116, 104, 105, 115, 59]⟩
def rB : ByteArray := ⟨#[65, 32, 111, 32, 61, 32, 116, 104, 105, 115, 59, 32, 67, 32, 99, 32, 61, 32, 110, 101, 119, 32, 67, 40, 41, 59]⟩
def mC : ByteArray := ⟨#[110, 101, 119, 32, 67, 40, 41]⟩
def sT1 : ByteArray := ⟨#[99, 108, 97, 115, 115, 32, 84, 32, 123, 32, 115, 116, 97, 116, 105, 99, 32, 65, 32, 122, 32, 61, 32]⟩
def sT2 : ByteArray := ⟨#[59, 32, 115, 116, 97, 116, 105, 99, 32, 118, 111, 105, 100, 32, 116, 49, 40, 41, 32, 123, 32, 65, 32, 111, 32, 61, 32, 84, 58, 58, 122, 59, 32, 112, 114, 105, 110, 116, 32, 111, 46, 102, 40, 51, 41, 59, 32, 111, 46, 103, 50, 40, 41, 59, 32, 97, 115, 115, 101, 114, 116, 32, 49, 32, 111, 46, 120, 32, 60, 32, 57, 59, 32, 125, 32, 115, 116, 97, 116, 105, 99, 32, 118, 111, 105, 100, 32, 116, 50, 40, 41, 32, 123, 32, 65, 32, 111, 32, 61, 32]⟩
def sT3 : ByteArray := ⟨#[59]⟩
def sT4 : ByteArray := ⟨#[32, 125, 32, 125, 10]⟩
def pk (L : List ByteArray) (z : Int) : ByteArray := (L[((IntKind.u64.wrap z).tmod (L.length : Int)).toNat]?).getD ⟨#[]⟩
def jnl (L : List ByteArray) (zs : List Int) : ByteArray := zs.foldl (fun t z => t ++ ⟨#[32]⟩ ++ pk L z) ⟨#[]⟩
theorem jnl_succ (L : List ByteArray) (zs : List Int) (j : Nat) (z : Int) (h : zs[j]? = some z) : jnl L (zs.take (j + 1)) = jnl L (zs.take j) ++ ⟨#[32]⟩ ++ pk L z := by
 have hj : j < zs.length := by
   rcases Nat.lt_or_ge j zs.length with h1 | h1
   · exact h1
   · rw [List.getElem?_eq_none h1] at h; cases h
 have e : zs.take (j + 1) = zs.take j ++ [z] := by
   rw [List.take_add_one, h]; rfl
 unfold jnl
 rw [e, List.foldl_append]
 rfl
theorem take_end {α : Type} (zs : List α) (j mo : Nat) (h : ¬ (j < zs.length ∧ j < mo)) (hj : j ≤ mo) : zs.take j = zs.take mo := by
 rcases Nat.lt_or_ge j zs.length with h1 | h1
 · have : j = mo := by omega
   rw [this]
 · rw [List.take_of_length_le h1, List.take_of_length_le (by omega)]
def inT (sub : Bool) (mo : Nat) (zs : List Int) : ByteArray := jnl (if sub = true then allI ++ allS else allI) (zs.take mo)
def outT (zs : List Int) : ByteArray := jnl allO (zs.take 4)
def atT (zss : List (List Int)) (i : Nat) : List Int := (zss[i]?).getD []
def repF : Nat → ByteArray → ByteArray → ByteArray → Nat → ByteArray
 | 0, s, _, _, _ => s
 | n + 1, s, a, b, j => if j + a.size ≤ s.size then (if (s.extract j (j + a.size)).toList = a.toList then s.extract 0 j ++ b ++ s.extract (j + a.size) s.size else repF n s a b (j + 1)) else s
def repT (s a b : ByteArray) : ByteArray := repF (s.size + 2) s a b 0
def srcS1 (zss : List (List Int)) : ByteArray := sA1 ++ inT false 4 (atT zss 0) ++ sA2
def srcS2 (zss : List (List Int)) : ByteArray := if 1 < zss.length then srcS1 zss ++ sB1 ++ inT true 4 (atT zss 1) ++ sB2 else srcS1 zss
def srcM2 (zss : List (List Int)) : ByteArray := if 1 < zss.length then pk [mB2, mB0, mA] ((atT zss 1).length : Int) else mA
def srcS3 (zss : List (List Int)) : ByteArray := if 2 < zss.length then repT (srcS2 zss ++ sC1 ++ inT false 2 (atT zss 2) ++ sC2) rA rB else srcS2 zss
def srcM3 (zss : List (List Int)) : ByteArray := if 2 < zss.length then pk [mC, srcM2 zss] ((atT zss 2).length : Int) else srcM2 zss
def srcT (zss : List (List Int)) : ByteArray := srcS3 zss ++ sT1 ++ srcM3 zss ++ sT2 ++ srcM3 zss ++ sT3 ++ outT (atT zss 3) ++ sT4
def TxL (w : World) (v : Value) (L : List ByteArray) : Prop := ∃ (b o cap : Nat), v = .slice (some ⟨b, o, none⟩) L.length cap ∧ 0 < L.length ∧ L.length ≤ 1000 ∧ ∀ i t, L[i]? = some t → w.cell? ⟨b, o + i, none⟩ = some (.string t)
def LiL (w : World) (v : Value) (zs : List Int) : Prop := ∃ (A : Option Addr) (cap : Nat), v = .slice A zs.length cap ∧ zs.length ≤ maxLen ∧ ∀ j z, zs[j]? = some z → ∃ (b o : Nat), A = some ⟨b, o, none⟩ ∧ w.cell? ⟨b, o + j, none⟩ = some (.int .i64 z)
def LlL (w : World) (v : Value) (zss : List (List Int)) : Prop := ∃ (A : Option Addr) (cap : Nat), v = .slice A zss.length cap ∧ zss.length ≤ maxLen ∧ ∀ j zs, zss[j]? = some zs → ∃ (b o : Nat) (u : Value), A = some ⟨b, o, none⟩ ∧ w.cell? ⟨b, o + j, none⟩ = some u ∧ LiL w u zs
theorem LiL.nil (w : World) : LiL w (.slice none 0 0) [] := ⟨none, 0, rfl, Nat.zero_le _, fun j z h => by simp at h⟩
theorem LiL.keep {w w' : World} {v : Value} {zs : List Int} (h : LiL w v zs) (K : Keep w w') : LiL w' v zs := by
 obtain ⟨A, cap, hv, hn, hc⟩ := h
 exact ⟨A, cap, hv, hn, fun j z hj => by obtain ⟨b, o, hA, hz⟩ := hc j z hj; exact ⟨b, o, hA, K _ _ hz⟩⟩
theorem LlL.keep {w w' : World} {v : Value} {zss : List (List Int)} (h : LlL w v zss) (K : Keep w w') : LlL w' v zss := by
 obtain ⟨A, cap, hv, hn, hc⟩ := h
 exact ⟨A, cap, hv, hn, fun j zs hj => by obtain ⟨b, o, u, hA, hz, hl⟩ := hc j zs hj; exact ⟨b, o, u, hA, K _ _ hz, hl.keep K⟩⟩
theorem choose_list {α : Type} (n : Nat) (P : Nat → α → Prop) (h : ∀ j, j < n → ∃ x, P j x) : ∃ l : List α, l.length = n ∧ ∀ j x, l[j]? = some x → P j x := by
 induction n with
 | zero => exact ⟨[], rfl, fun j x hj => by simp at hj⟩
 | succ n ih =>
   obtain ⟨l, hl, hp⟩ := ih (fun j hj => h j (by omega))
   obtain ⟨x, hx⟩ := h n (by omega)
   refine ⟨l ++ [x], by simp [hl], fun j y hj => ?_⟩
   rcases Nat.lt_or_ge j l.length with h1 | h1
   · rw [List.getElem?_append_left h1] at hj; exact hp j y hj
   · rw [List.getElem?_append_right h1] at hj
     have e : j - l.length = 0 := by
       rcases Nat.eq_zero_or_pos (j - l.length) with h2 | h2
       · exact h2
       · rw [List.getElem?_eq_none (by simp; omega)] at hj; cases hj
     rw [e] at hj
     simp at hj
     subst hj
     have : j = n := by omega
     rw [this]; exact hx
theorem Li.list {w : World} {v : Value} (h : Li w v) : ∃ zs, LiL w v zs := by
 obtain ⟨A, n, cap, rfl, hn, hc⟩ := h
 obtain ⟨zs, hl, hp⟩ := choose_list n (fun j z => ∃ (b o : Nat), A = some ⟨b, o, none⟩ ∧ w.cell? ⟨b, o + j, none⟩ = some (.int .i64 z)) (fun j hj => by obtain ⟨b, o, z, hA, hz⟩ := hc j hj; exact ⟨z, b, o, hA, hz⟩)
 exact ⟨zs, A, cap, by rw [hl], by omega, hp⟩
theorem Ll.list {w : World} {v : Value} (h : Ll w v) : ∃ zss, LlL w v zss := by
 obtain ⟨A, n, cap, rfl, hn, hc⟩ := h
 obtain ⟨zss, hl, hp⟩ := choose_list n (fun j zs => ∃ (b o : Nat) (u : Value), A = some ⟨b, o, none⟩ ∧ w.cell? ⟨b, o + j, none⟩ = some u ∧ LiL w u zs) (fun j hj => by
   obtain ⟨b, o, u, hA, hu, hi⟩ := hc j hj
   obtain ⟨zs, hz⟩ := hi.list
   exact ⟨zs, b, o, u, hA, hu, hz⟩)
 exact ⟨zss, A, cap, by rw [hl], by omega, hp⟩
theorem pick_is (w : World) (v : Value) (L : List ByteArray) (k : Int) (h : TxL w v L) : Calls Tryz.prog 10 #[v, .int .i64 k] w fun e w' => e = .returned (.string (pk L k)) ∧ w = w' := by
 obtain ⟨b, o, cap, rfl, h0, hm, hc⟩ := h
 obtain ⟨x, i, a1, a2, a3, a4, a5, a6⟩ := whichS k L.length h0 (by omega)
 obtain ⟨t, ht1⟩ : ∃ t, L[i]? = some t := ⟨L[i], List.getElem?_eq_getElem a3⟩
 have hp : pk L k = t := by unfold pk; rw [a1, a2]; simp [ht1]
 have ht := hc i t ht1
 rw [hp]
 obtain ⟨n, hn⟩ : ∃ n, L.length = n := ⟨_, rfl⟩
 rw [hn] at a2 a3 a6 hm h0 ⊢
 have a3' : (i : Int) < n := by omega
 have hi0 : (0 : Int) ≤ i := by omega
 have hn0 : ((n : Int) == 0) = false := by simp; omega
 clear hc hp ht1 hn
 go_enter Tryz.func10, Tryz.ntmps10
 go_wp2_with fail
 go_ret
 exact ⟨rfl, rfl⟩
theorem srcAt_is (w : World) (v : Value) (zss : List (List Int)) (i : Nat) (hi : i < 100) (h : LlL w v zss) : Calls Tryz.prog 9 #[v, .int .i64 i] w fun e w' => (∃ u, e = .returned u ∧ LiL w u (atT zss i)) ∧ w = w' := by
 obtain ⟨A, cap, rfl, hn, hc⟩ := h
 obtain ⟨n, hnn⟩ : ∃ n, zss.length = n := ⟨_, rfl⟩
 by_cases h : i < zss.length
 · have hz : zss[i]? = some zss[i] := List.getElem?_eq_getElem h
   obtain ⟨b, o, u, rfl, hu, hl⟩ := hc i _ hz
   have ha : atT zss i = zss[i] := by unfold atT; rw [hz]; rfl
   rw [← ha] at hl
   rw [hnn] at h hn ⊢
   have h' : (i : Int) < n := by omega
   have HL := Lib.hid hl
   clear hl hc hz ha
   obtain ⟨A2, cap2, rfl, _⟩ := id HL.out
   go_enter Tryz.func9, Tryz.ntmps9
   go_wp2_with fail
   go_ret
   exact ⟨⟨_, rfl, HL.out⟩, rfl⟩
 · have ha : atT zss i = [] := by unfold atT; rw [List.getElem?_eq_none (by omega)]; rfl
   have HA := Lib.hid ha
   rw [hnn] at h hn ⊢
   have h' : (n : Int) ≤ i := by omega
   clear hc ha
   go_enter Tryz.func9, Tryz.ntmps9
   go_wp2_with fail
   go_ret
   exact ⟨⟨_, rfl, by rw [HA.out]; exact LiL.nil _⟩, rfl⟩
end
section
open Go.RowKit
end
section
open Go.RowKit
def srcTxB : Value → Bool
 | .string t => decide (t.size ≤ 100)
 | _ => false
theorem gen_worldS {P : Program} {c : Code} {Q : Exit → Act → World → Prop} {a : Act} {W0 : World} (F : World → Prop) (h0 : F W0) (h : ∀ W, F W → Code.wp P c Q a W) : Code.wp P c Q a W0 := h W0 h0
end
section
open Go.RowKit
theorem txs_one {xs : List Value} (hb : xs.all srcTxB = true) : ∀ u ∈ xs, u.oneCell' = true := by
 intro u hu
 rw [List.all_eq_true] at hb
 have h1 := hb u hu
 cases u <;> first | rfl | simp [srcTxB] at h1
theorem cells_new (w : World) (cs : Array Value) (T : TypeId) : ∀ j u, cs.toList[j]? = some u → (w.alloc (.cells cs T)).cell? ((⟨w.heap.size, 0, none⟩ : Addr).add j) = some u := by
 intro j u hu
 have e : (⟨w.heap.size, 0, none⟩ : Addr).add j = ⟨w.heap.size, 0 + j, none⟩ := by simp [Addr.add]; exact fun h => h.symm
 rw [e, World.cell?_alloc_new]
 simp only [Nat.zero_add]
 simpa using hu
theorem below_grownS {B : Nat} {w w1 w2 : World} {o : Option Nat} (hb : Below B w w1) (h : w1.grownBy w2 o) (hB : B ≤ w1.heap.size) (ho : ∀ k, o = some k → B ≤ k) : Below B w w2 :=
 hb.trans ⟨h.os, h.tape, h.output, h.size, fun k hk => h.block k (Nat.lt_of_lt_of_le hk hB) (fun e => by have := ho k e.symm; omega)⟩
theorem Tryz.infoTx : (Tryz.prog.info? 9).map (fun i => (i.zero, i.size, i.bytes)) = some (some (.string ⟨#[]⟩), 1, 16) := by kernel_rfl
end
section
open Go.RowKit
theorem kept_at {w : World} {b o : Nat} {u : Value} (h : w.cell? ⟨b, o, none⟩ = some u) : ∀ w', Below w.heap.size w w' → w'.cell? ⟨b, o, none⟩ = some u ∧ b < w'.heap.size ∧ b ≠ w'.heap.size := by
 intro w' hb
 have h2 := Keep.below hb _ _ h
 have h3 := World.block_lt_of_cell? w' _ h2
 simp only at h3
 exact ⟨h2, h3, by omega⟩
end
section
open Go.RowKit
theorem replace_is (w : World) (s a b : ByteArray) (hs : s.size ≤ 100000) (ha : a.size ≤ 1000) (hb : b.size ≤ 1000) : Calls Tryz.prog 11 #[.string s, .string a, .string b] w fun e w' => e = .returned (.string (repT s a b)) ∧ Below w.heap.size w w' := by
 obtain ⟨T, hT⟩ : ∃ T, repT s a b = T := ⟨_, rfl⟩
 have HT : Hid (repF (s.size + 2) s a b 0 = T) := Lib.hid hT
 rw [hT]
 clear hT
 go_enter Tryz.func11, Tryz.ntmps11
 go_wp2_with fail
 go_loopw [7] (fun v7 wr => ∃ j : Nat, v7 = .int .i64 j ∧ j ≤ s.size + 1 ∧ repF (s.size + 2 - j) s a b j = T ∧ wr = w) (fun v7 wr => s.size + 2 - (intOf v7).toNat)
 case atStart => exact ⟨0, rfl, Nat.zero_le _, HT.out, rfl⟩
 case round =>
   obtain ⟨j, rfl, hj, hr, rfl⟩ := hrel
   obtain ⟨m, hm⟩ : ∃ m, s.size + 2 - j = m + 1 := ⟨s.size + 1 - j, by omega⟩
   rw [hm] at hr
   by_cases hlt : j + a.size ≤ s.size
   · have hl : (j : Int) + (a.size : Int) ≤ s.size := by omega
     have h0 : (0 : Int) ≤ j := by omega
     have hjs : (j : Int) ≤ s.size := by omega
     have hja : (j : Int) ≤ (j : Int) + (a.size : Int) := by omega
     have h0a : (0 : Int) ≤ (j : Int) + (a.size : Int) := by omega
     have hn : ((j : Int) + (a.size : Int)).toNat = j + a.size := by omega
     have HM := Lib.hid hm
     obtain ⟨q, hq⟩ : ∃ q, ((s.extract j (j + a.size)).toList == a.toList) = q := ⟨_, rfl⟩
     simp only [repF, if_pos hlt] at hr
     cases q with
     | true =>
       have hq2 : (s.extract j (j + a.size)).toList = a.toList := by simpa using hq
       rw [if_pos hq2] at hr
       have HR := Lib.hid hr
       clear hr hq2 hm
       go_wp2_with fail
       go_quiet (fail)
       go_wp2_with fail
       go_ret
       exact ⟨by rw [← HR.out]; rfl, below_drewN (Below.refl _ _) _⟩
     | false =>
       have hq2 : ¬ (s.extract j (j + a.size)).toList = a.toList := by simpa using hq
       rw [if_neg hq2] at hr
       have HR := Lib.hid hr
       clear hr hq2 hm
       go_wp2_with fail
       exact ⟨⟨j + 1, by simp, by omega, by rw [← HR.out]; have := HM.out; congr 1; omega, trivial⟩, by simp [intOf]; omega⟩
   · have hl : (s.size : Int) < (j : Int) + (a.size : Int) := by omega
     simp only [repF, if_neg hlt] at hr
     have HR := Lib.hid hr
     clear hr hm
     go_wp2_with fail
     go_ret
     exact ⟨by rw [← HR.out]; rfl, Below.refl _ _⟩
end
section
open Go.RowKit
theorem txl_lit (w : World) (T : TypeId) (vs : Array Value) (L : List ByteArray) (cap : Nat) (n : Nat) (hn : L.length = n) (hv : vs.toList = L.map Value.string) (h0 : 0 < n) (hm : n ≤ 1000) : TxL (w.alloc (.cells vs T)) (.slice (some ⟨w.heap.size, 0, none⟩) n cap) L := by
 subst hn
 refine ⟨_, _, _, rfl, h0, hm, fun i t hi => ?_⟩
 rw [World.cell?_alloc_new]
 have e : vs[0 + i]? = vs.toList[i]? := by simp
 rw [e, hv, List.getElem?_map, hi]
 rfl
theorem pk_size {L : List ByteArray} (h : L.all (fun t => decide (t.size ≤ 100)) = true) (z : Int) : (pk L z).size ≤ 100 := by
 unfold pk
 generalize ((IntKind.u64.wrap z).tmod (L.length : Int)).toNat = i
 cases hi : L[i]? with
 | none => exact Nat.zero_le _
 | some t =>
   rw [List.all_eq_true] at h
   simpa using h t (List.mem_of_getElem? hi)
theorem jnl_fold {L : List ByteArray} (h : L.all (fun t => decide (t.size ≤ 100)) = true) : ∀ (zs : List Int) (t : ByteArray), (zs.foldl (fun t z => t ++ ⟨#[32]⟩ ++ pk L z) t).size ≤ t.size + 101 * zs.length
 | [], t => by simp
 | z :: zs, t => by
   have h1 := jnl_fold h zs (t ++ ⟨#[32]⟩ ++ pk L z)
   have h2 := pk_size h z
   have h3 : (t ++ ⟨#[32]⟩).size = t.size + 1 := by rw [ByteArray.size_append]; rfl
   rw [ByteArray.size_append, h3] at h1
   simp only [List.foldl_cons, List.length_cons]
   omega
theorem jnl_size {L : List ByteArray} (h : L.all (fun t => decide (t.size ≤ 100)) = true) (zs : List Int) (j : Nat) : (jnl L (zs.take j)).size ≤ 101 * j := by
 have h1 := jnl_fold h (zs.take j) ⟨#[]⟩
 have h2 : (zs.take j).length ≤ j := by rw [List.length_take]; omega
 have h3 : (⟨#[]⟩ : ByteArray).size = 0 := rfl
 unfold jnl
 omega
theorem all_o : allO.all (fun t => decide (t.size ≤ 100)) = true := by decide +kernel
theorem all_i : allI.all (fun t => decide (t.size ≤ 100)) = true := by decide +kernel
theorem all_s : (allI ++ allS).all (fun t => decide (t.size ≤ 100)) = true := by decide +kernel
theorem txl_own {W : World} {B n : Nat} {T : TypeId} {v : Value} {L : List ByteArray} (h : W.ownsRow B T 1 v n (L.map Value.string)) (h0 : 0 < n) (hm : n ≤ 1000) (hl : L.length = n) : TxL W v L := by
 have ho := h
 rcases h with ⟨_, ⟨rfl, rfl⟩ | ⟨g, cap, cur, rfl, _⟩⟩
 · omega
 · refine ⟨g, 0, cap, by rw [hl], by omega, by omega, fun i t hi => ?_⟩
   have hc := ho.cells (g := g) rfl i (.string t) (by rw [List.getElem?_map, hi]; rfl)
   have e : (⟨g, 0, none⟩ : Addr).add i = ⟨g, 0 + i, none⟩ := by simp [Addr.add]; exact fun h => h.symm
   rw [e] at hc
   exact hc
theorem outer_is (w : World) (v : Value) (zs : List Int) (h : LiL w v zs) : Calls Tryz.prog 12 #[v] w fun e w' => e = .returned (.string (outT zs)) ∧ Below w.heap.size w w' := by
 obtain ⟨TT, hT⟩ : ∃ T, outT zs = T := ⟨_, rfl⟩
 have HT : Hid (outT zs = TT) := Lib.hid hT
 rw [hT]
 obtain ⟨A, cap, rfl, hn, hc⟩ := h
 obtain ⟨n, hnn⟩ : ∃ n, zs.length = n := ⟨_, rfl⟩
 have HNN := Lib.hid hnn
 rw [hnn] at hn ⊢
 have HC := Lib.hid hc
 clear hc hnn hT
 go_enter Tryz.func12, Tryz.ntmps12
 go_wp2_with fail
 refine gen_worldS (F := fun W => TxL W (.slice (some ⟨w.heap.size, 0, none⟩) 12 12) allO ∧ Below w.heap.size w W) ⟨txl_lit _ _ _ _ _ 12 rfl rfl (by decide) (by decide), (Below.refl _ _).alloc (Nat.le_refl _) _⟩ ?_
 rintro W1 ⟨hx, hb⟩
 have HX := Lib.hid hx
 have HB := Lib.hid hb
 clear hx hb
 go_loopw [4, 5] (fun v4 v5 wr => ∃ j : Nat, v4 = .string (jnl allO (zs.take j)) ∧ v5 = .int .i64 j ∧ j ≤ 4 ∧ wr = W1) (fun v4 v5 wr => 5 - (intOf v5).toNat)
 case atStart => exact ⟨0, rfl, rfl, by omega, rfl⟩
 case round =>
   obtain ⟨j, rfl, rfl, hj, rfl⟩ := hrel
   by_cases hjn : j < n ∧ j < 4
   · have h1 : (j : Int) < n := by omega
     have h2 : (j : Int) < 4 := by omega
     have h0 : (0 : Int) ≤ j := by omega
     obtain ⟨z, hzj⟩ : ∃ z, zs[j]? = some z := ⟨zs[j]'(by rw [HNN.out]; exact hjn.1), List.getElem?_eq_getElem _⟩
     have HJ := Lib.hid (jnl_succ allO zs j z hzj)
     obtain ⟨b, o, rfl, hz⟩ := HC.out j z hzj
     have hz1 := Keep.below HB.out _ _ hz
     obtain ⟨tj, htj⟩ : ∃ x, jnl allO (zs.take j) = x := ⟨_, rfl⟩
     obtain ⟨pz, hpz⟩ : ∃ x, pk allO z = x := ⟨_, rfl⟩
     have HPK : Hid (Calls Tryz.prog 10 #[.slice (some ⟨w.heap.size, 0, none⟩) 12 12, .int .i64 z] wr fun e w' => e = .returned (.string pz) ∧ wr = w') := Lib.hid (by rw [← hpz]; exact pick_is _ _ _ _ HX.out)
     have hs1 := jnl_size all_o zs j
     have hs2 := pk_size all_o z
     rw [htj] at hs1
     rw [hpz] at hs2
     have hts : (tj ++ ⟨#[32]⟩).size = tj.size + 1 := by rw [ByteArray.size_append]; rfl
     rw [htj, hpz] at HJ
     rw [htj]
     clear hz hzj htj hpz
     go_wp2_with (go_at_call 10; refine HPK.out.mono ?_; rintro e w2 ⟨rfl, rfl⟩)
     exact ⟨⟨j + 1, by rw [HJ.out], by simp, by omega, trivial⟩, by simp [intOf]; omega⟩
   · have he := Lib.hid (take_end zs j 4 (by rw [HNN.out]; exact hjn) hj)
     by_cases hjn2 : j < n
     · have h1 : (j : Int) < n := by omega
       have h2 : (4 : Int) ≤ j := by omega
       go_wp2_with fail
       go_ret
       exact ⟨by rw [← HT.out]; show _ = Ending.returned (.string (jnl allO (zs.take 4))); rw [← he.out]; rfl, HB.out⟩
     · have h1 : (n : Int) ≤ j := by omega
       go_wp2_with fail
       go_ret
       exact ⟨by rw [← HT.out]; show _ = Ending.returned (.string (jnl allO (zs.take 4))); rw [← he.out]; rfl, HB.out⟩
theorem inner_no_is (w : World) (v : Value) (zs : List Int) (mo : Nat) (hmo : mo ≤ 4) (h : LiL w v zs) : Calls Tryz.prog 8 #[v, .int .i64 mo, .bool false] w fun e w' => e = .returned (.string (inT false mo zs)) ∧ Below w.heap.size w w' := by
 obtain ⟨TT, hT⟩ : ∃ T, inT false mo zs = T := ⟨_, rfl⟩
 have HT : Hid (inT false mo zs = TT) := Lib.hid hT
 rw [hT]
 obtain ⟨A, cap, rfl, hn, hc⟩ := h
 obtain ⟨n, hnn⟩ : ∃ n, zs.length = n := ⟨_, rfl⟩
 have HNN := Lib.hid hnn
 rw [hnn] at hn ⊢
 have HC := Lib.hid hc
 clear hc hnn hT
 go_enter Tryz.func8, Tryz.ntmps8
 go_wp2_with fail
 refine gen_worldS (F := fun W => TxL W (.slice (some ⟨w.heap.size, 0, none⟩) 28 28) allI ∧ Below w.heap.size w W) ⟨txl_lit _ _ _ _ _ 28 rfl rfl (by decide) (by decide), (Below.refl _ _).alloc (Nat.le_refl _) _⟩ ?_
 rintro W1 ⟨hx, hb⟩
 have HX := Lib.hid hx
 have HB := Lib.hid hb
 clear hx hb
 go_loopw [8, 9] (fun v4 v5 wr => ∃ j : Nat, v4 = .string (jnl allI (zs.take j)) ∧ v5 = .int .i64 j ∧ j ≤ mo ∧ wr = W1) (fun v4 v5 wr => 5 - (intOf v5).toNat)
 case atStart => exact ⟨0, rfl, rfl, by omega, rfl⟩
 case round =>
   obtain ⟨j, rfl, rfl, hj, rfl⟩ := hrel
   by_cases hjn : j < n ∧ j < mo
   · have h1 : (j : Int) < n := by omega
     have h2 : (j : Int) < mo := by omega
     have h0 : (0 : Int) ≤ j := by omega
     obtain ⟨z, hzj⟩ : ∃ z, zs[j]? = some z := ⟨zs[j]'(by rw [HNN.out]; exact hjn.1), List.getElem?_eq_getElem _⟩
     have HJ := Lib.hid (jnl_succ allI zs j z hzj)
     obtain ⟨b, o, rfl, hz⟩ := HC.out j z hzj
     have hz1 := Keep.below HB.out _ _ hz
     obtain ⟨tj, htj⟩ : ∃ x, jnl allI (zs.take j) = x := ⟨_, rfl⟩
     obtain ⟨pz, hpz⟩ : ∃ x, pk allI z = x := ⟨_, rfl⟩
     have HPK : Hid (Calls Tryz.prog 10 #[.slice (some ⟨w.heap.size, 0, none⟩) 28 28, .int .i64 z] wr fun e w' => e = .returned (.string pz) ∧ wr = w') := Lib.hid (by rw [← hpz]; exact pick_is _ _ _ _ HX.out)
     have hs1 := jnl_size all_i zs j
     have hs2 := pk_size all_i z
     rw [htj] at hs1
     rw [hpz] at hs2
     have hts : (tj ++ ⟨#[32]⟩).size = tj.size + 1 := by rw [ByteArray.size_append]; rfl
     rw [htj, hpz] at HJ
     rw [htj]
     clear hz hzj htj hpz
     go_wp2_with (go_at_call 10; refine HPK.out.mono ?_; rintro e w2 ⟨rfl, rfl⟩)
     exact ⟨⟨j + 1, by rw [HJ.out], by simp, by omega, trivial⟩, by simp [intOf]; omega⟩
   · have he := Lib.hid (take_end zs j mo (by rw [HNN.out]; exact hjn) hj)
     by_cases hjn2 : j < n
     · have h1 : (j : Int) < n := by omega
       have h2 : (mo : Int) ≤ j := by omega
       go_wp2_with fail
       go_ret
       exact ⟨by rw [← HT.out]; show _ = Ending.returned (.string (jnl allI (zs.take mo))); rw [← he.out]; rfl, HB.out⟩
     · have h1 : (n : Int) ≤ j := by omega
       go_wp2_with fail
       go_ret
       exact ⟨by rw [← HT.out]; show _ = Ending.returned (.string (jnl allI (zs.take mo))); rw [← he.out]; rfl, HB.out⟩
theorem inner_yes_is (w : World) (v : Value) (zs : List Int) (mo : Nat) (hmo : mo ≤ 4) (h : LiL w v zs) : Calls Tryz.prog 8 #[v, .int .i64 mo, .bool true] w fun e w' => e = .returned (.string (inT true mo zs)) ∧ Below w.heap.size w w' := by
 obtain ⟨TT, hT⟩ : ∃ T, inT true mo zs = T := ⟨_, rfl⟩
 have HT : Hid (inT true mo zs = TT) := Lib.hid hT
 rw [hT]
 obtain ⟨A, cap, rfl, hn, hc⟩ := h
 obtain ⟨n, hnn⟩ : ∃ n, zs.length = n := ⟨_, rfl⟩
 have HNN := Lib.hid hnn
 rw [hnn] at hn ⊢
 have HC := Lib.hid hc
 clear hc hnn hT
 go_enter Tryz.func8, Tryz.ntmps8
 go_upto_region 3 with (fail)
 refine gen_worldS (F := fun W => W.ownsRow w.heap.size 9 1 (.slice (some ⟨w.heap.size, 0, none⟩) 28 28) 28 (allI.map Value.string) ∧ Below w.heap.size w W) ⟨World.ownsRow_lit w _ 28 (Nat.le_refl _) (by decide) rfl, (Below.refl _ _).alloc (Nat.le_refl _) _⟩ ?_
 rintro W0 ⟨ho, hb0⟩
 have HO := Lib.hid ho
 have HB0 := Lib.hid hb0
 clear ho hb0
 obtain ⟨i0, hi, hz0, hz1, hz2⟩ : ∃ i, Tryz.prog.info? 9 = some i ∧ i.zero = some (.string ⟨#[]⟩) ∧ i.size = 1 ∧ i.bytes = 16 := by
   have := Tryz.infoTx
   cases hh : Tryz.prog.info? 9 with
   | none => rw [hh] at this; cases this
   | some i => rw [hh] at this; simp at this; exact ⟨i, rfl, this.1, this.2.1, this.2.2⟩
 go_upto_region 4 with (at_builtin; refine wpList_append_own_at _ rfl (.tmp 12) (.tmp 13) 24 rfl w.heap.size 9 i0 _ 1 16 Tryz.underlying24 hi hz0 hz1 hz2 rfl (by decide) _ _ _ rfl ((HO.out).alloc _) ⟨W0.heap.size, 0, none⟩ 7 7 ?news rfl ?c0 ?c1 ?c2 ?c3 ?c4 ?c5 ?_)
 case c1 => exact cells_new _ _ _
 case c0 => rfl
 case c2 => exact txs_one (by decide +kernel)
 case c3 => unfold maxLen; omega
 case c4 => omega
 case c5 => have := HB0.out.size; simp; omega
 intro v1 w3 hown hg _ _
 have hx : TxL w3 v1 (allI ++ allS) := txl_own (n := 35) (by rw [List.map_append]; exact hown) (by omega) (by omega) rfl
 have hb : Below w.heap.size w w3 := below_grownS (HB0.out.alloc HB0.out.size _) hg (by have := HB0.out.size; simp; omega) (fun k hk => by simp [Value.ownBlock] at hk; omega)
 clear hown hg
 have HX := Lib.hid hx
 have HB := Lib.hid hb
 clear hx hb
 go_wp2_with fail
 go_loopw [8, 9] (fun v4 v5 wr => ∃ j : Nat, v4 = .string (jnl (allI ++ allS) (zs.take j)) ∧ v5 = .int .i64 j ∧ j ≤ mo ∧ wr = w3) (fun v4 v5 wr => 5 - (intOf v5).toNat)
 case atStart => exact ⟨0, rfl, rfl, by omega, rfl⟩
 case round =>
   obtain ⟨j, rfl, rfl, hj, rfl⟩ := hrel
   by_cases hjn : j < n ∧ j < mo
   · have h1 : (j : Int) < n := by omega
     have h2 : (j : Int) < mo := by omega
     have h0 : (0 : Int) ≤ j := by omega
     obtain ⟨z, hzj⟩ : ∃ z, zs[j]? = some z := ⟨zs[j]'(by rw [HNN.out]; exact hjn.1), List.getElem?_eq_getElem _⟩
     have HJ := Lib.hid (jnl_succ (allI ++ allS) zs j z hzj)
     obtain ⟨b, o, rfl, hz⟩ := HC.out j z hzj
     have hz1 := Keep.below HB.out _ _ hz
     obtain ⟨tj, htj⟩ : ∃ x, jnl (allI ++ allS) (zs.take j) = x := ⟨_, rfl⟩
     obtain ⟨pz, hpz⟩ : ∃ x, pk (allI ++ allS) z = x := ⟨_, rfl⟩
     have HPK : Hid (Calls Tryz.prog 10 #[v1, .int .i64 z] wr fun e w' => e = .returned (.string pz) ∧ wr = w') := Lib.hid (by rw [← hpz]; exact pick_is _ _ _ _ HX.out)
     have hs1 := jnl_size all_s zs j
     have hs2 := pk_size all_s z
     rw [htj] at hs1
     rw [hpz] at hs2
     have hts : (tj ++ ⟨#[32]⟩).size = tj.size + 1 := by rw [ByteArray.size_append]; rfl
     rw [htj, hpz] at HJ
     rw [htj]
     clear hz hzj htj hpz
     go_wp2_with (go_at_call 10; refine HPK.out.mono ?_; rintro e w2 ⟨rfl, rfl⟩)
     exact ⟨⟨j + 1, by rw [HJ.out], by simp, by omega, trivial⟩, by simp [intOf]; omega⟩
   · have he := Lib.hid (take_end zs j mo (by rw [HNN.out]; exact hjn) hj)
     by_cases hjn2 : j < n
     · have h1 : (j : Int) < n := by omega
       have h2 : (mo : Int) ≤ j := by omega
       go_wp2_with fail
       go_ret
       exact ⟨by rw [← HT.out]; show _ = Ending.returned (.string (jnl (allI ++ allS) (zs.take mo))); rw [← he.out]; rfl, HB.out⟩
     · have h1 : (n : Int) ≤ j := by omega
       go_wp2_with fail
       go_ret
       exact ⟨by rw [← HT.out]; show _ = Ending.returned (.string (jnl (allI ++ allS) (zs.take mo))); rw [← he.out]; rfl, HB.out⟩
end
section
open Go.RowKit
theorem inT_size (b : Bool) (mo : Nat) (hmo : mo ≤ 4) (zs : List Int) : (inT b mo zs).size ≤ 404 := by
 cases b
 · have := jnl_size all_i zs mo; unfold inT; simp only [Bool.false_eq_true, if_false]; omega
 · have := jnl_size all_s zs mo; unfold inT; simp only [if_true]; omega
theorem outT_size (zs : List Int) : (outT zs).size ≤ 404 := by
 have := jnl_size all_o zs 4; unfold outT; omega
theorem repF_size : ∀ (n : Nat) (s a b : ByteArray) (j : Nat), (repF n s a b j).size ≤ s.size + b.size
 | 0, s, a, b, j => by simp only [repF]; omega
 | n + 1, s, a, b, j => by
   simp only [repF]
   split
   · split
     · rw [ByteArray.size_append, ByteArray.size_append, ByteArray.size_extract, ByteArray.size_extract]; omega
     · exact repF_size n s a b (j + 1)
   · omega
theorem srcM2_size (zss : List (List Int)) : (srcM2 zss).size ≤ 100 := by
 unfold srcM2
 split
 · exact pk_size (by decide +kernel) _
 · decide +kernel
theorem srcM3_size (zss : List (List Int)) : (srcM3 zss).size ≤ 100 := by
 have h := srcM2_size zss
 unfold srcM3
 split
 · refine pk_size ?_ _
   simp only [List.all_cons, List.all_nil, Bool.and_true, Bool.and_eq_true, decide_eq_true_eq]
   exact ⟨by decide +kernel, h⟩
 · exact h
theorem srcS1_size (zss : List (List Int)) : (srcS1 zss).size ≤ 704 := by
 have h := inT_size false 4 (by omega) (atT zss 0)
 have h1 : sA1.size ≤ 150 := by decide +kernel
 have h2 : sA2.size ≤ 150 := by decide +kernel
 unfold srcS1
 rw [ByteArray.size_append, ByteArray.size_append]; omega
theorem srcS2_size (zss : List (List Int)) : (srcS2 zss).size ≤ 1408 := by
 have h0 := srcS1_size zss
 have h := inT_size true 4 (by omega) (atT zss 1)
 have h1 : sB1.size ≤ 150 := by decide +kernel
 have h2 : sB2.size ≤ 150 := by decide +kernel
 unfold srcS2
 split
 · rw [ByteArray.size_append, ByteArray.size_append, ByteArray.size_append]; omega
 · omega
theorem srcC_size (zss : List (List Int)) : (srcS2 zss ++ sC1 ++ inT false 2 (atT zss 2) ++ sC2).size ≤ 2112 := by
 have h0 := srcS2_size zss
 have h := inT_size false 2 (by omega) (atT zss 2)
 have h1 : sC1.size ≤ 150 := by decide +kernel
 have h2 : sC2.size ≤ 150 := by decide +kernel
 rw [ByteArray.size_append, ByteArray.size_append, ByteArray.size_append]; omega
theorem srcS3_size (zss : List (List Int)) : (srcS3 zss).size ≤ 2262 := by
 have h0 := srcS2_size zss
 have h := srcC_size zss
 have h1 : rB.size ≤ 150 := by decide +kernel
 unfold srcS3
 split
 · have := repF_size ((srcS2 zss ++ sC1 ++ inT false 2 (atT zss 2) ++ sC2).size + 2) (srcS2 zss ++ sC1 ++ inT false 2 (atT zss 2) ++ sC2) rA rB 0
   unfold repT; omega
 · omega
theorem srcT_size (zss : List (List Int)) : (srcT zss).size ≤ 5000 := by
 have h0 := srcS3_size zss
 have h1 := srcM3_size zss
 have h2 := outT_size (atT zss 3)
 have k1 : sT1.size ≤ 150 := by decide +kernel
 have k2 : sT2.size ≤ 150 := by decide +kernel
 have k3 : sT3.size ≤ 150 := by decide +kernel
 have k4 : sT4.size ≤ 150 := by decide +kernel
 unfold srcT
 simp only [ByteArray.size_append]; omega
theorem LlL.cellAt {w : World} {A : Option Addr} {n cap : Nat} {zss : List (List Int)} (h : LlL w (.slice A n cap) zss) {i : Nat} (hi : i < n) : ∃ (b o : Nat) (B : Option Addr) (c : Nat), A = some ⟨b, o, none⟩ ∧ w.cell? ⟨b, o + i, none⟩ = some (.slice B (atT zss i).length c) ∧ zss.length = n := by
 obtain ⟨A', cap', hv, hn, hc⟩ := h
 injection hv with h1 h2 h3
 subst h1 h2
 have hz : zss[i]? = some zss[i] := List.getElem?_eq_getElem hi
 obtain ⟨b, o, u, hA, hu, B, c, rfl, _⟩ := hc i _ hz
 have ha : atT zss i = zss[i] := by unfold atT; rw [hz]; rfl
 exact ⟨b, o, B, c, hA, by rw [ha]; exact hu, rfl⟩
end
section
open Go.RowKit
def AtQ' (w : World) (v : Value) (i : Int) (zs : List Int) : Prop := Calls Tryz.prog 9 #[v, .int .i64 i] w fun e w' => (∃ u, e = .returned u ∧ LiL w u zs) ∧ w = w'
theorem atq_0 {w : World} {v : Value} {zss : List (List Int)} (h : LlL w v zss) : AtQ' w v 0 (atT zss 0) := srcAt_is w v zss 0 (by omega) h
theorem atq_1 {w : World} {v : Value} {zss : List (List Int)} (h : LlL w v zss) : AtQ' w v 1 (atT zss 1) := srcAt_is w v zss 1 (by omega) h
theorem atq_2 {w : World} {v : Value} {zss : List (List Int)} (h : LlL w v zss) : AtQ' w v 2 (atT zss 2) := srcAt_is w v zss 2 (by omega) h
theorem atq_3 {w : World} {v : Value} {zss : List (List Int)} (h : LlL w v zss) : AtQ' w v 3 (atT zss 3) := srcAt_is w v zss 3 (by omega) h
def InQ (w : World) (v : Value) (i : Int) (b : Bool) (t : ByteArray) : Prop := Calls Tryz.prog 8 #[v, .int .i64 i, .bool b] w fun e w' => e = .returned (.string t) ∧ Below w.heap.size w w'
def SrcC (w : World) (a b : ByteArray) (v3 v4 : Value) (wx : World) : Prop := v3 = .string a ∧ v4 = .string b ∧ Below w.heap.size w wx
theorem source_is (w : World) (v : Value) (zss : List (List Int)) (h : LlL w v zss) : Calls Tryz.prog 4 #[v] w fun e w' => e = .returned (.string (srcT zss)) ∧ Below w.heap.size w w' := by
 have HL := Lib.hid h
 obtain ⟨T0, e0⟩ : ∃ x, inT false 4 (atT zss 0) = x := ⟨_, rfl⟩
 obtain ⟨T1, e1⟩ : ∃ x, inT true 4 (atT zss 1) = x := ⟨_, rfl⟩
 obtain ⟨T2, e2⟩ : ∃ x, inT false 2 (atT zss 2) = x := ⟨_, rfl⟩
 obtain ⟨T3, e3⟩ : ∃ x, outT (atT zss 3) = x := ⟨_, rfl⟩
 have t0 : T0.size ≤ 404 := by rw [← e0]; exact inT_size _ _ (by omega) _
 have t1 : T1.size ≤ 404 := by rw [← e1]; exact inT_size _ _ (by omega) _
 have t2 : T2.size ≤ 404 := by rw [← e2]; exact inT_size _ _ (by omega) _
 have t3 : T3.size ≤ 404 := by rw [← e3]; exact outT_size _
 have HI0 : Hid (∀ w' u, LiL w' u (atT zss 0) → InQ w' u 4 false T0) := Lib.hid fun w' u hu => by rw [← e0]; exact inner_no_is w' u _ 4 (by omega) hu
 have HI1 : Hid (∀ w' u, LiL w' u (atT zss 1) → InQ w' u 4 true T1) := Lib.hid fun w' u hu => by rw [← e1]; exact inner_yes_is w' u _ 4 (by omega) hu
 have HI2 : Hid (∀ w' u, LiL w' u (atT zss 2) → InQ w' u 2 false T2) := Lib.hid fun w' u hu => by rw [← e2]; exact inner_no_is w' u _ 2 (by omega) hu
 have HO3 : Hid (∀ w' u, LiL w' u (atT zss 3) → Calls Tryz.prog 12 #[u] w' fun e w'' => e = .returned (.string T3) ∧ Below w'.heap.size w' w'') := Lib.hid fun w' u hu => by rw [← e3]; exact outer_is w' u _ hu
 obtain ⟨S1, g1⟩ : ∃ x, srcS1 zss = x := ⟨_, rfl⟩
 obtain ⟨S2, g2⟩ : ∃ x, srcS2 zss = x := ⟨_, rfl⟩
 obtain ⟨M2, m2⟩ : ∃ x, srcM2 zss = x := ⟨_, rfl⟩
 obtain ⟨S3, g3⟩ : ∃ x, srcS3 zss = x := ⟨_, rfl⟩
 obtain ⟨M3, m3⟩ : ∃ x, srcM3 zss = x := ⟨_, rfl⟩
 have s1 : S1.size ≤ 704 := by rw [← g1]; exact srcS1_size _
 have s2 : S2.size ≤ 1408 := by rw [← g2]; exact srcS2_size _
 have s3 : S3.size ≤ 2262 := by rw [← g3]; exact srcS3_size _
 have sm2 : M2.size ≤ 100 := by rw [← m2]; exact srcM2_size _
 have sm3 : M3.size ≤ 100 := by rw [← m3]; exact srcM3_size _
 have G1 : Hid (sA1 ++ T0 ++ sA2 = S1) := Lib.hid (by rw [← g1, ← e0]; rfl)
 have G2 : Hid (1 < zss.length → S1 ++ sB1 ++ T1 ++ sB2 = S2 ∧ pk [mB2, mB0, mA] ((atT zss 1).length : Int) = M2) := Lib.hid fun hh => ⟨by rw [← g2, ← e1, ← g1]; unfold srcS2; rw [if_pos hh], by rw [← m2]; unfold srcM2; rw [if_pos hh]⟩
 have G2n : Hid (¬ 1 < zss.length → S1 = S2 ∧ mA = M2) := Lib.hid fun hh => ⟨by rw [← g2, ← g1]; unfold srcS2; rw [if_neg hh], by rw [← m2]; unfold srcM2; rw [if_neg hh]⟩
 have G3 : Hid (2 < zss.length → repT (S2 ++ sC1 ++ T2 ++ sC2) rA rB = S3 ∧ pk [mC, M2] ((atT zss 2).length : Int) = M3) := Lib.hid fun hh => ⟨by rw [← g3, ← e2, ← g2]; unfold srcS3; rw [if_pos hh], by rw [← m3, ← m2]; unfold srcM3; rw [if_pos hh]⟩
 have G3n : Hid (¬ 2 < zss.length → S2 = S3 ∧ M2 = M3) := Lib.hid fun hh => ⟨by rw [← g3, ← g2]; unfold srcS3; rw [if_neg hh], by rw [← m3, ← m2]; unfold srcM3; rw [if_neg hh]⟩
 have GC : Hid ((S2 ++ sC1 ++ T2 ++ sC2).size ≤ 2112) := Lib.hid (by rw [← g2, ← e2]; exact srcC_size zss)
 have GT : Hid (S3 ++ sT1 ++ M3 ++ sT2 ++ M3 ++ sT3 ++ T3 ++ sT4 = srcT zss) := Lib.hid (by rw [← g3, ← m3, ← e3]; rfl)
 obtain ⟨TT, hTT⟩ : ∃ x, srcT zss = x := ⟨_, rfl⟩
 rw [hTT] at GT ⊢
 obtain ⟨A, cap, rfl, hn, hc⟩ := h
 obtain ⟨n, hnn⟩ : ∃ n, zss.length = n := ⟨_, rfl⟩
 rw [hnn] at HL hn G2 G2n G3 G3n ⊢
 clear hc e0 e1 e2 e3 g1 g2 m2 g3 m3 hTT hnn
 go_enter Tryz.func4, Tryz.ntmps4
 go_upto_region 1 with (fail)
 go_cut [3] from 5 to 9 (fun v3 wx => v3 = .string S1 ∧ Below w.heap.size w wx)
 case first =>
   go_wp2_with (first
     | (go_at_call 9; refine (atq_0 HL.out).mono ?_; rintro e wx ⟨⟨u0, rfl, hu0⟩, rfl⟩; have HU0 := Lib.hid hu0; clear hu0)
     | (go_at_call 8; refine (HI0.out _ _ HU0.out).mono ?_; rintro e w1 ⟨rfl, hb⟩; have HB1 := Lib.hid hb; clear hb))
   go_meet
   case rel => exact ⟨by rw [← G1.out]; rfl, HB1.out⟩
 case rest =>
   obtain ⟨rfl, hb1⟩ := hcut
   have HB1 := Lib.hid hb1
   clear hb1 HI0 G1
   go_upto_if 12 with (fail)
   go_cut [3, 4] from 10 to 25 (SrcC w S2 M2)
   case first =>
     by_cases h1 : (1 : Int) < n
     · obtain ⟨b, o, B, c, rfl, hce, hzn⟩ := HL.out.cellAt (show 1 < n by omega)
       have HCE := Lib.hid (kept_at hce)
       obtain ⟨k1, k2⟩ := G2.out (by omega)
       have K1 := Lib.hid k1; have K2 := Lib.hid k2
       obtain ⟨ln, hln⟩ : ∃ x, (atT zss 1).length = x := ⟨_, rfl⟩
       rw [hln] at HCE K2
       clear hce k1 k2 hln hzn
       go_wp2_with (first
         | (go_at_call 9; refine (atq_1 (HL.out.keep (Keep.below HB1.out))).mono ?_; rintro e wx ⟨⟨u0, rfl, hu0⟩, rfl⟩; have HU0 := Lib.hid hu0; clear hu0)
         | (go_at_call 8; refine (HI1.out _ _ HU0.out).mono ?_; rintro e w2 ⟨rfl, hb⟩; have hb2 := HB1.out.trans (hb.mono HB1.out.size); obtain ⟨hce2, hlt, hne⟩ := HCE.out w2 hb2; have HB2 := Lib.hid hb2; clear hb hb2)
         | (go_at_call 10; refine (pick_is _ _ [mB2, mB0, mA] _ (txl_lit _ _ _ _ _ 3 rfl rfl (by decide) (by decide))).mono ?_; rintro e w3 ⟨rfl, rfl⟩))
       go_meet
       case rel => exact ⟨by rw [← K1.out]; rfl, by rw [← K2.out], HB2.out.alloc HB2.out.size _⟩
     · have h1' : (n : Int) ≤ 1 := by omega
       obtain ⟨k1, k2⟩ := G2n.out (by omega)
       have K1 := Lib.hid k1; have K2 := Lib.hid k2
       clear k1 k2
       go_wp2_with fail
       go_meet
       case rel => exact ⟨by rw [← K1.out], by rw [← K2.out]; rfl, HB1.out⟩
   case rest =>
     obtain ⟨rfl, rfl, hb2⟩ := hcut
     have HB2 := Lib.hid hb2
     clear hb2 HB1 HI1 G2 G2n
     go_upto_if 28 with (fail)
     go_cut [3, 4] from 26 to 44 (SrcC w S3 M3)
     case first =>
       by_cases h1 : (2 : Int) < n
       · obtain ⟨b, o, B, c, rfl, hce, hzn⟩ := HL.out.cellAt (show 2 < n by omega)
         have HCE := Lib.hid (kept_at hce)
         obtain ⟨k1, k2⟩ := G3.out (by omega)
         have HREP : Hid (∀ w', Calls Tryz.prog 11 #[.string (S2 ++ sC1 ++ T2 ++ sC2), .string rA, .string rB] w' fun e w'' => e = .returned (.string S3) ∧ Below w'.heap.size w' w'') := Lib.hid fun w' => by rw [← k1]; exact replace_is _ _ _ _ (by have := GC.out; omega) (by decide +kernel) (by decide +kernel)
         have K2 := Lib.hid k2
         obtain ⟨ln, hln⟩ : ∃ x, (atT zss 2).length = x := ⟨_, rfl⟩
         rw [hln] at HCE K2
         clear hce k1 k2 hln hzn
         go_wp2_with (first
           | (go_at_call 9; refine (atq_2 (HL.out.keep (Keep.below HB2.out))).mono ?_; rintro e wx ⟨⟨u0, rfl, hu0⟩, rfl⟩; have HU0 := Lib.hid hu0; clear hu0)
           | (go_at_call 8; refine (HI2.out _ _ HU0.out).mono ?_; rintro e w3 ⟨rfl, hb⟩; have HB3 := Lib.hid (HB2.out.trans (hb.mono HB2.out.size)); clear hb)
           | (go_at_call 11; refine (HREP.out _).mono ?_; rintro e w4 ⟨rfl, hb⟩; have hb4 := HB3.out.trans (hb.mono HB3.out.size); obtain ⟨hce2, hlt, hne⟩ := HCE.out w4 hb4; have HB4 := Lib.hid hb4; clear hb hb4)
           | (go_at_call 10; refine (pick_is _ _ [mC, M2] _ (txl_lit _ _ _ _ _ 2 rfl rfl (by decide) (by decide))).mono ?_; rintro e w5 ⟨rfl, rfl⟩))
         go_meet
         case rel => exact ⟨rfl, by rw [← K2.out], HB4.out.alloc HB4.out.size _⟩
       · have h1' : (n : Int) ≤ 2 := by omega
         obtain ⟨k1, k2⟩ := G3n.out (by omega)
         have K1 := Lib.hid k1; have K2 := Lib.hid k2
         clear k1 k2
         go_wp2_with fail
         go_meet
         case rel => exact ⟨by rw [← K1.out], by rw [← K2.out], HB2.out⟩
     case rest =>
       obtain ⟨rfl, rfl, hb3⟩ := hcut
       have HB3 := Lib.hid hb3
       clear hb3 HB2 HI2 G3 G3n GC
       go_wp2_with (first
         | (go_at_call 9; refine (atq_3 (HL.out.keep (Keep.below HB3.out))).mono ?_; rintro e wx ⟨⟨u0, rfl, hu0⟩, rfl⟩; have HU0 := Lib.hid hu0; clear hu0)
         | (go_at_call 12; refine (HO3.out _ _ HU0.out).mono ?_; rintro e w4 ⟨rfl, hb⟩; have HB4 := Lib.hid (HB3.out.trans (hb.mono HB3.out.size)); clear hb))
       go_ret
       exact ⟨by rw [← GT.out]; rfl, HB4.out⟩
end
end Go.Proofs.YtipcoglddfgopaaGreatDoor
