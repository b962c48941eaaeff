/- Statements of layer 2 as walks: a quote is its text's word. -/
import Derived.Test.YtolhanngkackcaaTold2
import Derived.Test.YtolhanngkackcaaWordI
import Derived.Test.YtolhanngkackcaaRefF
set_option linter.unusedSimpArgs false
set_option linter.unusedVariables false
namespace Go.Proofs.Ytolhanngkackcaa
open Go.RowKit

theorem tx_runesF_len (s : ByteArray) : ∀ f p, (runesF s f p).length ≤ f
  | 0, p => Nat.le_refl _
  | f + 1, p => by
    simp only [runesF]
    split
    · have := tx_runesF_len s f (p + (Utf8.decode s p).2); simp only [List.length_cons]; omega
    · simp
theorem tx_encs_len : ∀ l : List Nat, (encs l).length ≤ 4 * l.length
  | [] => by simp [encs]
  | r :: l => by
    have := tx_encs_len l
    have h := enc_len (r : Int)
    rw [encs_cons, List.length_append, List.length_cons]; omega
theorem tx_qrs_len : ∀ l : List Nat, (l.flatMap qr).length ≤ 2 * l.length
  | [] => by simp
  | r :: l => by
    have := tx_qrs_len l
    have h : (qr r).length ≤ 2 := by unfold qr; split <;> simp
    rw [List.flatMap_cons, List.length_append, List.length_cons]; omega
theorem tx_quote_len (s : ByteArray) : (quoteFrom s 0).length ≤ 8 * s.size := by
  have a : (runes s 0).length ≤ s.size := tx_runesF_len s _ 0
  have b := tx_qrs_len (runes s 0)
  have c := tx_encs_len ((runes s 0).flatMap qr)
  unfold quoteFrom; omega
theorem cat_B (a b : ByteArray) (l m : List UInt8) (h1 : a.data.toList = l) (h2 : b.data.toList = m) : a ++ b = B (l ++ m) := by
  apply ba_is; rw [app_list, h1, h2]
set_option maxRecDepth 100000 in
set_option maxHeartbeats 4000000 in
theorem lawWordTexts (s : ByteArray) (hs : s.size ≤ maxLen) (w : World) : Calls Try.prog 7 #[.string s] w fun e w' => e = .returned (.bool true) ∧ Below w.heap.size w w' := by
  unfold maxLen at hs
  by_cases h2 : 100 < s.size
  · have h2' : (100 : Int) < s.size := by omega
    go_enter Try.func7, Try.ntmps7
    go_wp2_with (go_at_call 9; refine (told2_any _).mono ?_; rintro e w1 ⟨rfl, hb⟩)
    go_ret
    exact ⟨rfl, hb⟩
  · have h2' : (s.size : Int) ≤ 100 := by omega
    obtain ⟨b, hb⟩ : ∃ b, bad s = b := ⟨_, rfl⟩
    have HB : Hid (∀ w, Calls Try.prog 13 #[.string s] w fun e w' => e = .returned (.int .i64 b) ∧ Below w.heap.size w w') := by
      show ∀ w, _
      intro w; have := rbad_any s w (by omega); rw [hb] at this; exact this
    by_cases hb0 : 0 ≤ b
    · clear hb
      go_enter Try.func7, Try.ntmps7
      go_wp2_with (first | (go_at_call 9; refine (told2_any _).mono ?_; rintro e w1 ⟨rfl, hb2⟩) | (go_at_call 13; refine (HB.out _).mono ?_; clear HB; rintro e w1 ⟨rfl, hb1⟩))
      go_ret
      exact ⟨rfl, hb1.trans (hb2.mono hb1.size)⟩
    · have hb0' : b < 0 := by omega
      have hbs : bad s < 0 := by omega
      have hql := tx_quote_len s
      obtain ⟨q, hq⟩ : ∃ q : ByteArray, q = ⟨(quote s).toArray⟩ := ⟨_, rfl⟩
      have hqd : q.data.toList = quote s := by rw [hq]
      have hqz : q.size = (quoteFrom s 0).length + 2 := by rw [hq, size_list, quote_is]; simp
      have HQ : Hid (∀ w, Calls Try.prog 14 #[.string s] w fun e w' => e = .returned (.string q) ∧ Below w.heap.size w w') := by
        show ∀ w, _
        intro w; rw [hq]; exact rquote_any s w (by omega)
      obtain ⟨a1, a2, a3⟩ := texts_ok s hbs (by omega) hql
      obtain ⟨o1, o2, o3⟩ := texts_open s (by omega) hql
      have hx1 : (⟨#[97]⟩ : ByteArray) ++ q ++ ⟨#[98]⟩ = B ([97] ++ (quote s ++ [98])) := by
        rw [cat_B _ _ _ [98] (app_list _ _) rfl, hqd]; simp
      have hx2 : (⟨#[97]⟩ : ByteArray) ++ q.extract 0 (q.size - 1) = B ([97] ++ (34 :: quoteFrom s 0)) := by
        refine cat_B _ _ _ _ rfl ?_
        rw [extract_list, hqd, hqz, List.drop_zero, show (quoteFrom s 0).length + 2 - 1 - 0 = (quoteFrom s 0).length + 1 from by omega, quote_is, List.take_succ_cons, List.take_left]
      have hz1 : (B ([97] ++ (quote s ++ [98]))).size ≤ maxLen := by
        rw [← hx1]; unfold maxLen; simp only [ByteArray.size_append]; have : (⟨#[97]⟩ : ByteArray).size = 1 := rfl; have : (⟨#[98]⟩ : ByteArray).size = 1 := rfl; omega
      have hz2 : (B ([97] ++ (34 :: quoteFrom s 0))).size ≤ maxLen := by
        rw [B_size]; unfold maxLen; simp; omega
      have HA : Hid (∀ W, Calls Try.prog 10 #[.string ((⟨#[97]⟩ : ByteArray) ++ q ++ ⟨#[98]⟩)] W fun e w' => ∃ z : Value, e = .returned (.tuple #[z, .int .i64 0, .int .i64 0]) ∧ w'.ownsRow W.heap.size 32 3 z 3 [.int .i64 1, .string ⟨#[97]⟩, .int .i64 0, .int .i64 3, .string s, .int .i64 1, .int .i64 1, .string ⟨#[98]⟩, .int .i64 ((1 + (quote s).length : Nat) : Int)] ∧ Below W.heap.size W w') := by
        show ∀ W, _
        intro W
        have := tell _ _ 0 0 a1 a2 a3 hz1 W
        rw [show cellsW [⟨1, [97], 0⟩, ⟨3, s.data.toList, 1⟩, ⟨1, [98], 1 + (quote s).length⟩] = [.int .i64 1, .string ⟨#[97]⟩, .int .i64 0, .int .i64 3, .string ⟨s.data.toList.toArray⟩, .int .i64 1, .int .i64 1, .string ⟨#[98]⟩, .int .i64 ((1 + (quote s).length : Nat) : Int)] from rfl, show (⟨s.data.toList.toArray⟩ : ByteArray) = s from B_of s] at this
        rw [hx1]
        exact this
      have HO : Hid (∀ W, Calls Try.prog 10 #[.string ((⟨#[97]⟩ : ByteArray) ++ q.extract 0 (q.size - 1))] W fun e w' => ∃ z : Value, e = .returned (.tuple #[z, .int .i64 2, .int .i64 1]) ∧ w'.ownsRow W.heap.size 32 3 z 0 [] ∧ Below W.heap.size W w') := by
        show ∀ W, _
        intro W
        have := tell _ _ 2 1 o1 o2 o3 hz2 W
        rw [hx2]
        exact this
      have i1 : 1 ≤ (q.size : Int) := by omega
      have i2 : (q.size : Int) ≤ 1000 := by omega
      have i3 : ((q.size : Int) - 1).toNat = q.size - 1 := by omega
      have i4 : q.size - 1 ≤ q.size := by omega
      clear hb hb0 hbs hql hq hqd hqz a1 a2 a3 o1 o2 o3 hx1 hx2 hz1 hz2
      go_enter Try.func7, Try.ntmps7
      go_wp2_with (first
        | (go_at_call 13; refine (HB.out _).mono ?_; clear HB; rintro e w1 ⟨rfl, hB⟩)
        | (go_at_call 14; refine (HQ.out _).mono ?_; clear HQ; rintro e w2 ⟨rfl, hb2⟩; replace hB := hB.trans (hb2.mono hB.size); clear hb2)
        | (go_at_call 10; refine (HA.out _).mono ?_; clear HA; rintro e w3 ⟨z, rfl, ho, hb3⟩; obtain ⟨g, cap, rfl, hB1, hg, hcap, hm, _⟩ := own_at ho (by decide); replace hB := hB.trans (hb3.mono hB.size); clear hb3)
        | (go_at_call 10; refine (HO.out _).mono ?_; clear HO; rintro e w3 ⟨z2, rfl, ho2, hb3⟩; replace ho := own_next ho hb3; replace hB := hB.trans (hb3.mono hB.size); clear hb3 ho2)
        | (go_at_call 9; refine (told2_any _).mono ?_; rintro e w4 ⟨rfl, hb4⟩; replace ho := own_next ho hb4; have c3 := own_cell ho 3 _ rfl; have c4 := own_cell ho 4 _ rfl; have c5 := own_cell ho 5 _ rfl; clear ho; replace hB := hB.trans (hb4.mono hB.size); clear hb4))
      go_ret
      exact ⟨rfl, hB⟩
end Go.Proofs.Ytolhanngkackcaa
