/- word32: Text; the document's own decimals. -/
import Derived.Test.YtinjlmkdhgaeeaaNwC
set_option linter.unusedSimpArgs false
set_option linter.unusedVariables false
namespace Go.Proofs.Ytinjlmkdhgaeeaa
open Go.RowKit

theorem conv_own {w : World} {B : Nat} {v : Value} {l : List Nat} (h : w.ownsRow B 21 1 v l.length (runesV l)) (h0 : 1 ≤ l.length) (h1 : ∀ d ∈ l, d < 10) : (convert 47 9 v).run Try.prog w = .ok (.string ⟨(byteL l).toArray⟩) w := by
  have hc := fun g e => h.cells (g := g) e
  rcases h.2 with ⟨rfl, e⟩ | ⟨g, cap, cur, rfl, _, _, hcap, _⟩
  · omega
  · have hc2 := hc g rfl
    have := run_convert_runes (P := Try.prog) w 47 9 21 ⟨g, 0, none⟩ l.length cap (l.map fun d : Nat => (48 + (d : Int))) (by simp) Try.underlying47 Try.underlying21 Try.underlying9 (fun j hj => hc2 j _ (by
      have hj' : j < l.length := by simpa using hj
      simp [runesV, hj']))
    rw [this, List.take_of_length_le (by simp), runesBytes, runes_foldl _ _ h1]
    congr 2
def i32P (a : Int) : Prop := i32 a
set_option maxHeartbeats 1000000 in
theorem text_any (a : Int) (ha : i32 a) (w : World) : Calls Try.prog 24 #[.int .i32 a] w fun e w' => e = .returned (.string (decT a)) ∧ Below w.heap.size w w' := by
  obtain ⟨h1, h2⟩ := ha
  by_cases hn : a < 0
  · obtain ⟨n, hna⟩ : ∃ n : Nat, -a = (n : Int) := ⟨(-a).toNat, by omega⟩
    have hd : dgOk 10 n := dg_ok (by omega)
    have HC := Lib.hid (fun W => digits_any 10 n hd (by omega) W)
    have HT : Hid (decT a = (⟨#[45]⟩ : ByteArray) ++ decN n) := Lib.hid (by rw [decT_neg hn]; congr 2; omega)
    have HL := Lib.hid (dgF_len 10 n)
    have HD := Lib.hid (dgF_lt 10 n hd)
    have hz : (decN n).size ≤ 11 := (decN_size n).1
    obtain ⟨s, hs⟩ : ∃ s, decN n = s := ⟨_, rfl⟩
    have HS : Hid (⟨(byteL (dgF 10 n)).toArray⟩ = s) := Lib.hid hs
    rw [hs] at HT hz
    obtain ⟨l, hl⟩ : ∃ l, dgF 10 n = l := ⟨_, rfl⟩
    rw [hl] at HC HL HD HS
    clear hd hs hl
    go_enter Try.func24, Try.ntmps24
    go_wp2_with (go_at_call 27; refine (HC.out _).mono ?_; rintro e w1 ⟨v, rfl, ho1, hb1⟩; have hcv := conv_own ho1 HL.out.1 HD.out; rw [HS.out] at hcv; clear ho1)
    go_ret
    exact ⟨by rw [HT.out]; rfl, hb1⟩
  · obtain ⟨n, hna⟩ : ∃ n : Nat, a = (n : Int) := ⟨a.toNat, by omega⟩
    subst hna
    have hd : dgOk 10 n := dg_ok (by omega)
    have HC := Lib.hid (fun W => digits_any 10 n hd (by omega) W)
    have HT : Hid (decT n = decN n) := Lib.hid (by rw [decT_pos hn]; rfl)
    have HL := Lib.hid (dgF_len 10 n)
    have HD := Lib.hid (dgF_lt 10 n hd)
    obtain ⟨s, hs⟩ : ∃ s, decN n = s := ⟨_, rfl⟩
    have HS : Hid (⟨(byteL (dgF 10 n)).toArray⟩ = s) := Lib.hid hs
    rw [hs] at HT
    obtain ⟨l, hl⟩ : ∃ l, dgF 10 n = l := ⟨_, rfl⟩
    rw [hl] at HC HL HD HS
    clear hd hs hl
    go_enter Try.func24, Try.ntmps24
    go_wp2_with (go_at_call 27; refine (HC.out _).mono ?_; rintro e w1 ⟨v, rfl, ho1, hb1⟩; have hcv := conv_own ho1 HL.out.1 HD.out; rw [HS.out] at hcv; clear ho1)
    go_ret
    exact ⟨by rw [HT.out]; rfl, hb1⟩

/-! ### The document's own -/
theorem digit_cut (d : Nat) (h : d < 10) : (⟨#[48, 49, 50, 51, 52, 53, 54, 55, 56, 57]⟩ : ByteArray).extract d (d + 1) = ⟨#[UInt8.ofNat (48 + d)]⟩ := by
  match d, h with
  | 0, _ => rfl
  | 1, _ => rfl
  | 2, _ => rfl
  | 3, _ => rfl
  | 4, _ => rfl
  | 5, _ => rfl
  | 6, _ => rfl
  | 7, _ => rfl
  | 8, _ => rfl
  | 9, _ => rfl
theorem decN_step {n m : Nat} {t s : ByteArray} (hs : s = decN m ++ t) (hm : 10 ≤ m) (hb : m ≤ 4294967296) : s = decN (m / 10) ++ (⟨#[UInt8.ofNat (48 + m % 10)]⟩ ++ t) := by
  rw [hs]; apply ByteArray.ext; apply Array.ext'
  simp [decN, dg_big hb hm, byteL, ByteArray.data_append]
theorem decN_end {m : Nat} {t s : ByteArray} (hs : s = decN m ++ t) (hm : m < 10) : s = ⟨#[UInt8.ofNat (48 + m)]⟩ ++ t := by
  rw [hs]; apply ByteArray.ext; apply Array.ext'
  simp [decN, dg_small hm, byteL, ByteArray.data_append]
set_option maxHeartbeats 1000000 in
theorem decimal_any (n : Nat) (hn : n ≤ 4294967296) (w : World) : Calls Try.prog 26 #[.int .i64 n] w fun e w' => e = .returned (.string (decN n)) ∧ Below w.heap.size w w' := by
  have hn' : (n : Int) ≤ 4294967296 := by omega
  obtain ⟨s, hs⟩ : ∃ s, decN n = s := ⟨_, rfl⟩
  have h0 : s = decN n ++ ⟨#[]⟩ := by rw [hs]; apply ByteArray.ext; simp [ByteArray.data_append]
  have H0 := Lib.hid h0
  have hz : s.size ≤ 11 := by rw [← hs]; exact (decN_size n).1
  rw [hs]
  clear hs h0
  go_enter Try.func26, Try.ntmps26
  go_wp2
  go_loopw [0, 3] (fun v0 v3 wr => ∃ (m : Nat) (t : ByteArray), v0 = .int .i64 m ∧ v3 = .string t ∧ m ≤ 4294967296 ∧ s = decN m ++ t ∧ wr = w) (fun v0 v3 wr => (intOf v0).toNat)
  case atStart => exact ⟨n, ⟨#[]⟩, rfl, rfl, hn, H0.out, rfl⟩
  case round =>
    obtain ⟨m, t, rfl, rfl, hm, hst, rfl⟩ := hrel
    have htz : t.size ≤ 11 := by rw [hst, ByteArray.size_append] at hz; omega
    by_cases h10 : 10 ≤ m
    · have HS := Lib.hid (decN_step (n := n) hst h10 hm)
      have hq := tdiv10 m
      have hr := tmod10 m
      have hq1 : ((m / 10 : Nat) : Int) ≤ 429496729 := by omega
      have hq2 : m / 10 < m := by omega
      have hr1 : ((m % 10 : Nat) : Int) ≤ 9 := by omega
      have hcut := digit_cut (m % 10) (by omega)
      have h9 : (9 : Int) < m := by omega
      obtain ⟨q, hqe⟩ : ∃ q, m / 10 = q := ⟨_, rfl⟩
      obtain ⟨r, hre⟩ : ∃ r, m % 10 = r := ⟨_, rfl⟩
      rw [hqe] at HS hq hq1 hq2
      rw [hre] at HS hr hr1 hcut
      obtain ⟨u, hu⟩ : ∃ u, (⟨#[UInt8.ofNat (48 + r)]⟩ : ByteArray) = u := ⟨_, rfl⟩
      have huz : u.size = 1 := by rw [← hu]; rfl
      rw [hu] at HS hcut
      have e1 : ((r : Int) + 1).toNat = r + 1 := by omega
      clear hst hqe hre hu
      go_wp2
      go_roundw
      case rel => exact ⟨q, u ++ t, by go_num, by rw [← hcut], by omega, HS.out, trivial⟩
      case measure => simp [intOf]; omega
    · have HS := Lib.hid (decN_end hst (by omega))
      have h9 : ¬ (9 : Int) < m := by omega
      have hcut := digit_cut m (by omega)
      have hr1 : (m : Int) ≤ 9 := by omega
      obtain ⟨u, hu⟩ : ∃ u, (⟨#[UInt8.ofNat (48 + m)]⟩ : ByteArray) = u := ⟨_, rfl⟩
      have huz : u.size = 1 := by rw [← hu]; rfl
      rw [hu] at HS hcut
      have e1 : ((m : Int) + 1).toNat = m + 1 := by omega
      clear hst hu
      go_wp2
      go_ret
      exact ⟨by rw [HS.out, ← hcut]; rfl, Below.refl _ _⟩
set_option maxHeartbeats 1000000 in
theorem rdigits_any (a : Int) (ha : i32 a) (w : World) : Calls Try.prog 22 #[.int .i32 a] w fun e w' => e = .returned (.string (decT a)) ∧ Below w.heap.size w w' := by
  obtain ⟨h1, h2⟩ := ha
  by_cases hn : a < 0
  · obtain ⟨n, hna⟩ : ∃ n : Nat, -a = (n : Int) := ⟨(-a).toNat, by omega⟩
    have HC := Lib.hid (fun W => decimal_any n (by omega) W)
    have HT : Hid (decT a = (⟨#[45]⟩ : ByteArray) ++ decN n) := Lib.hid (by rw [decT_neg hn]; congr 2; omega)
    have hz : (decN n).size ≤ 11 := (decN_size n).1
    obtain ⟨s, hs⟩ : ∃ s, decN n = s := ⟨_, rfl⟩
    rw [hs] at HT hz HC
    clear hs
    go_enter Try.func22, Try.ntmps22
    go_wp2_with (go_at_call 26; refine (HC.out _).mono ?_; rintro e w1 ⟨rfl, hb1⟩)
    go_ret
    exact ⟨by rw [HT.out]; rfl, hb1⟩
  · obtain ⟨n, hna⟩ : ∃ n : Nat, a = (n : Int) := ⟨a.toNat, by omega⟩
    subst hna
    have HC := Lib.hid (fun W => decimal_any n (by omega) W)
    have HT : Hid (decT n = decN n) := Lib.hid (by rw [decT_pos hn]; rfl)
    obtain ⟨s, hs⟩ : ∃ s, decN n = s := ⟨_, rfl⟩
    rw [hs] at HT HC
    clear hs
    go_enter Try.func22, Try.ntmps22
    go_wp2_with (go_at_call 26; refine (HC.out _).mono ?_; rintro e w1 ⟨rfl, hb1⟩)
    go_ret
    exact ⟨by rw [HT.out]; rfl, hb1⟩
end Go.Proofs.Ytinjlmkdhgaeeaa
