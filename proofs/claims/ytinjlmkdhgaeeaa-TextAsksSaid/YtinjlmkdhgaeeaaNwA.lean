/- Plain facts on numbers of 32 bits and their decimals: no Go program in this text. -/
import Derived.Laws.Cover4
import Derived.WalkKit
set_option linter.unusedSimpArgs false
set_option linter.unusedVariables false
namespace Go.Proofs.Ytinjlmkdhgaeeaa

/-- The decimals of a number, the highest one first, by fuel. -/
def dgF : Nat → Nat → List Nat
  | 0, n => [n]
  | f + 1, n => if 10 ≤ n then dgF f (n / 10) ++ [n % 10] else [n]
def dg (n : Nat) : List Nat := dgF 10 n
def dgOk (f n : Nat) : Prop := n < 10 ^ (f + 1)
theorem dgF_small (f n : Nat) (h : n < 10) : dgF f n = [n] := by
  cases f with
  | zero => rfl
  | succ f => rw [dgF, if_neg (by omega)]
theorem dgF_big (f n : Nat) (h : 10 ≤ n) : dgF (f + 1) n = dgF f (n / 10) ++ [n % 10] := by rw [dgF, if_pos h]
theorem dgOk_down {f n : Nat} (h : dgOk (f + 1) n) : dgOk f (n / 10) := by
  unfold dgOk at h ⊢
  rw [Nat.pow_succ] at h
  omega
theorem dgOk_zero {n : Nat} (h : dgOk 0 n) : n < 10 := by unfold dgOk at h; omega
theorem dgF_lt : ∀ f n, dgOk f n → ∀ d ∈ dgF f n, d < 10 := by
  intro f
  induction f with
  | zero => intro n h d hd; simp [dgF] at hd; subst hd; exact dgOk_zero h
  | succ f ih =>
    intro n h d hd
    by_cases hn : 10 ≤ n
    · rw [dgF_big f n hn, List.mem_append] at hd
      rcases hd with hd | hd
      · exact ih _ (dgOk_down h) d hd
      · simp at hd; subst hd; omega
    · rw [dgF_small _ n (by omega)] at hd; simp at hd; omega
def valL (a : Nat) (l : List Nat) : Nat := l.foldl (fun a d => a * 10 + d) a
theorem dgF_val : ∀ f n, valL 0 (dgF f n) = n := by
  intro f
  induction f with
  | zero => intro n; simp [dgF, valL]
  | succ f ih =>
    intro n
    by_cases hn : 10 ≤ n
    · rw [dgF_big f n hn, valL, List.foldl_append]
      have := ih (n / 10)
      rw [valL] at this
      rw [this]; simp; omega
    · rw [dgF_small _ n (by omega)]; simp [valL]
theorem dgF_len : ∀ f n, 1 ≤ (dgF f n).length ∧ (dgF f n).length ≤ f + 1 := by
  intro f
  induction f with
  | zero => intro n; simp [dgF]
  | succ f ih =>
    intro n
    by_cases hn : 10 ≤ n
    · rw [dgF_big f n hn]; have := ih (n / 10); simp; omega
    · rw [dgF_small _ n (by omega)]; simp
/-- More fuel changes nothing. -/
theorem dgF_more : ∀ f n, dgOk f n → dgF (f + 1) n = dgF f n := by
  intro f
  induction f with
  | zero => intro n h; rw [dgF_small 1 n (dgOk_zero h), dgF_small 0 n (dgOk_zero h)]
  | succ f ih =>
    intro n h
    by_cases hn : 10 ≤ n
    · rw [dgF_big _ n hn, dgF_big _ n hn, ih _ (dgOk_down h)]
    · rw [dgF_small _ n (by omega), dgF_small _ n (by omega)]
theorem dg_ok {n : Nat} (h : n ≤ 4294967296) : dgOk 10 n := by unfold dgOk; omega
theorem dg_big {n : Nat} (h : n ≤ 4294967296) (hn : 10 ≤ n) : dg n = dg (n / 10) ++ [n % 10] := by
  have h9 : dgOk 9 (n / 10) := by unfold dgOk; omega
  unfold dg
  rw [dgF_big 9 n hn, dgF_more 9 (n / 10) h9]
theorem dg_small {n : Nat} (hn : n < 10) : dg n = [n] := dgF_small _ n hn

/-! ### The text of a number -/
def byteL (l : List Nat) : List UInt8 := l.map fun d => UInt8.ofNat (48 + d)
def decN (n : Nat) : ByteArray := ⟨(byteL (dg n)).toArray⟩
def decT (a : Int) : ByteArray := if a < 0 then ⟨(45 :: byteL (dg (-a).toNat)).toArray⟩ else decN a.toNat
theorem decN_list (n : Nat) : (decN n).data.toList = byteL (dg n) := by simp [decN]
theorem decN_size (n : Nat) : (decN n).size ≤ 11 ∧ 1 ≤ (decN n).size := by
  have := dgF_len 10 n
  have e : (decN n).size = (dgF 10 n).length := by simp [decN, byteL, dg, ByteArray.size]
  omega
theorem decT_neg {a : Int} (h : a < 0) : decT a = (⟨#[45]⟩ : ByteArray) ++ decN (-a).toNat := by
  rw [decT, if_pos h]; apply ByteArray.ext; simp [decN, ByteArray.data_append]
theorem decT_pos {a : Int} (h : ¬ a < 0) : decT a = decN a.toNat := by rw [decT, if_neg h]
theorem decT_size (a : Int) : (decT a).size ≤ 12 ∧ 1 ≤ (decT a).size := by
  by_cases h : a < 0
  · rw [decT_neg h, ByteArray.size_append]; have := decN_size (-a).toNat; have e : (⟨#[45]⟩ : ByteArray).size = 1 := rfl; omega
  · rw [decT_pos h]; have := decN_size a.toNat; omega

/-- Runes of digits, as bytes. -/
theorem enc_digit (d : Nat) (h : d < 10) : Utf8.encode (48 + (d : Int)) = ⟨#[UInt8.ofNat (48 + d)]⟩ := by
  match d, h with
  | 0, _ => rfl
  | 1, _ => rfl
  | 2, _ => rfl
  | 3, _ => rfl
  | 4, _ => rfl
  | 5, _ => rfl
  | 6, _ => rfl
  | 7, _ => rfl
  | 8, _ => rfl
  | 9, _ => rfl
theorem runes_foldl : ∀ (l : List Nat) (s : ByteArray), (∀ d ∈ l, d < 10) → (l.map fun d : Nat => (48 + (d : Int))).foldl (fun r n => r ++ Utf8.encode n) s = s ++ ⟨(byteL l).toArray⟩ := by
  intro l
  induction l with
  | nil => intro s _; apply ByteArray.ext; simp [byteL, ByteArray.data_append]
  | cons d l ih =>
    intro s h
    rw [List.map_cons, List.foldl_cons, ih _ (fun x hx => h x (List.mem_cons_of_mem _ hx)), enc_digit d (h d (List.mem_cons_self))]
    apply ByteArray.ext; simp [byteL, ByteArray.data_append]
theorem runes_dg (f n : Nat) (h : dgOk f n) : runesBytes ((dgF f n).map fun d : Nat => (48 + (d : Int))) = ⟨(byteL (dgF f n)).toArray⟩ := by
  rw [runesBytes, runes_foldl _ _ (dgF_lt f n h)]
  apply ByteArray.ext; simp [ByteArray.data_append]
end Go.Proofs.Ytinjlmkdhgaeeaa
