/- Contract of the document's own answer for one word: texts, signs; any word. -/
import Derived.Test.YtolhanngkackcaaRefX2
set_option linter.unusedSimpArgs false
set_option linter.unusedVariables false
namespace Go.Proofs.Ytolhanngkackcaa
open Go.RowKit

theorem first_34 (s : ByteArray) (p : Nat) (h : p < s.size) (hb : bt s p = 34) :
    (rtextL (s.data.toList.drop p) = 0 ∧ (firstL (s.data.toList.drop p)).2.2 = 0) ∨ (0 < rtextL (s.data.toList.drop p) ∧ firstL (s.data.toList.drop p) = (3, plainText (inner (s.data.toList.drop p) (rtextL (s.data.toList.drop p))), rtextL (s.data.toList.drop p)) ∧ 2 ≤ rtextL (s.data.toList.drop p) ∧ p + rtextL (s.data.toList.drop p) ≤ s.size ∧ plainOk (inner (s.data.toList.drop p) (rtextL (s.data.toList.drop p))) = true) := by
  have e1 : spanL digit (s.data.toList.drop p) = 0 := by rw [span_step digit s p h, if_neg (by rw [hb]; decide)]
  have e2 : spanL alnum (s.data.toList.drop p) = 0 := by rw [span_step alnum s p h, if_neg (by rw [hb]; decide)]
  have hl := text_le (s.data.toList.drop p)
  have hz : (s.data.toList.drop p).length = s.size - p := by simp
  obtain ⟨b, t, e, _, hbb⟩ := head_of s p h
  by_cases h1 : 0 < textLen (s.data.toList.drop p)
  · by_cases h2 : plainOk (inner (s.data.toList.drop p) (textLen (s.data.toList.drop p))) = true
    · right
      have hr : rtextL (s.data.toList.drop p) = textLen (s.data.toList.drop p) := by unfold rtextL; rw [if_pos ⟨h1, h2⟩]
      rw [hr]
      refine ⟨h1, ?_, by omega, by omega, h2⟩
      unfold firstL
      rw [e1, e2, if_neg (by omega), if_neg (by omega), if_pos h1, if_pos h2]
    · left
      refine ⟨by unfold rtextL; rw [if_neg (fun g => h2 g.2)], ?_⟩
      unfold firstL
      rw [e1, e2, if_neg (by omega), if_neg (by omega), if_pos h1, if_neg h2]
  · left
    refine ⟨by unfold rtextL; rw [if_neg (fun g => h1 g.1)], ?_⟩
    unfold firstL
    rw [e1, e2, if_neg (by omega), if_neg (by omega), if_neg h1]
    show markL (s.data.toList.drop p) = 0
    rw [e]
    have h34 : b.toNat = 34 := by omega
    have e34 : b = 34 := UInt8.toNat_inj.1 h34
    unfold markL
    rw [if_neg]
    · simp only []; rw [if_neg]; subst e34; decide
    · subst e34
      rw [List.contains_iff_mem, List.take_succ_cons]
      intro g
      have key : ∀ x ∈ twos, x.head? ≠ some 34 := by decide
      exact key _ g rfl
set_option maxRecDepth 100000 in
set_option maxHeartbeats 4000000 in
theorem w_text (s : ByteArray) (p : Nat) (w : World) (hs : s.size ≤ 1048576) (hp : p < s.size) (h34 : bt s p = 34) : OneWSaid s p w := by
  have hc := first_34 s p hp h34
  obtain ⟨n, hn⟩ : ∃ n, rtextL (s.data.toList.drop p) = n := ⟨_, rfl⟩
  have HT : Hid (∀ w, Calls Try.prog 25 #[.string s, .int .i64 (p : Nat)] w fun e w' => e = .returned (.int .i64 (n : Nat)) ∧ Below w.heap.size w w') := by
    show ∀ w, _
    intro w; have := rtext_any s p w hs hp h34; rw [hn] at this; exact this
  rw [hn] at hc
  unfold OneWSaid
  have hbt := bt_eq s p hp
  rcases hc with ⟨hz, h0⟩ | ⟨hpos, hf, h2, hle, hpo⟩
  · subst hz
    have h1 := one_none_w s p hp (by omega) (by omega) h0
    have H1 := Lib.hid h1; clear h1 hn h0
    rw [h34] at hbt; clear h34
    go_enter Try.func17, Try.ntmps17
    go_wp2_with (first
      | (go_at_call 23; refine (rdigit_any _ _).mono ?_; rintro e w1 ⟨rfl, rfl⟩)
      | (go_at_call 24; refine (rletter_any 34 (by decide) _).mono ?_; rintro e w1 ⟨rfl, rfl⟩)
      | (go_at_call 25; refine (HT.out _).mono ?_; clear HT; rintro e w1 ⟨rfl, hb⟩; have hx := (Bx.new w #[.int .i64 0, .string ⟨#[]⟩, .int .i64 0] 41).next hb; have hB := below_box hb; clear hb; obtain ⟨c0, c1, c2, c3⟩ := hx.get3))
    refine bodyPost_ret (v := .tuple #[.agg #[.int .i64 0, .string ⟨#[]⟩, .int .i64 0], .int .i64 0]) (by simp [results, Try.results17, go_sem, c0, c1, c2, c3]) rfl ⟨one_said (k := 0) (n := 0) (t := ⟨#[]⟩) H1.out (oneA_zero _ _ _ _ _ H1.out rfl), below3 hB (Nat.le_refl _) _ _ _⟩
  · have h1 := one_word s p hp (by omega) (by omega) _ _ _ hf (by omega)
    have HA := Lib.hid (oneA_pos _ p _ _ _ h1 (by decide))
    obtain ⟨t, ht⟩ : ∃ t : ByteArray, t = ⟨(plainText (inner (s.data.toList.drop p) n)).toArray⟩ := ⟨_, rfl⟩
    have H1 : Hid (oneL (s.data.toList.drop p) = (3, t.data.toList, n)) := by
      show oneL (s.data.toList.drop p) = (3, t.data.toList, n)
      rw [h1, ht]
    have hin := inner_at s p (p + n - 1) (by omega) (by omega)
    rw [show p + n - 1 - p + 1 = n from by omega] at hin
    have HP : Hid (∀ w, Calls Try.prog 26 #[.string (s.extract (p + 1) (p + n - 1))] w fun e w' => e = .returned (.tuple #[.string t, .bool true]) ∧ Below w.heap.size w w') := by
      show ∀ w, _
      intro w; have := rplain_any (s.extract (p + 1) (p + n - 1)) w (by simp; omega); rw [hin, hpo, ← ht, ← hin] at this; exact this
    have hsl : ∀ w : World, (Instr.slice 9 (.string s) (some (.int .i64 ((p : Int) + 1))) (some (.int .i64 ((p : Int) + (n : Int) - 1))) none).run Try.prog w = .ok (.string (s.extract (p + 1) (p + n - 1))) w := by
      intro w
      have := run_slice_string (P := Try.prog) (w := w) 9 s .i64 .i64 ((p : Int) + 1) ((p : Int) + (n : Int) - 1) Try.underlying9 (by omega) (by omega) (by omega)
      rw [show ((p : Int) + 1).toNat = p + 1 from by omega, show ((p : Int) + (n : Int) - 1).toNat = p + n - 1 from by omega] at this
      exact this
    clear h1 hn hf hpo hin ht
    rw [h34] at hbt; clear h34
    go_enter Try.func17, Try.ntmps17
    go_wp2_with (first
      | (go_at_call 23; refine (rdigit_any _ _).mono ?_; rintro e w1 ⟨rfl, rfl⟩)
      | (go_at_call 24; refine (rletter_any 34 (by decide) _).mono ?_; rintro e w1 ⟨rfl, rfl⟩)
      | (go_at_call 25; refine (HT.out _).mono ?_; clear HT; rintro e w1 ⟨rfl, hb⟩; have hx := (Bx.new w #[.int .i64 0, .string ⟨#[]⟩, .int .i64 0] 41).next hb; have hB := below_box hb; clear hb)
      | (go_at_call 26; refine (HP.out _).mono ?_; clear HP; rintro e w1 ⟨rfl, hb⟩; replace hx := hx.next hb; replace hB := hB.trans (hb.mono hB.size); clear hb; obtain ⟨c0, c1, c2, c3⟩ := hx.get3))
    refine bodyPost_ret (v := .tuple #[.agg #[.int .i64 3, .string t, .int .i64 (p : Nat)], .int .i64 (n : Nat)]) (by simp [results, Try.results17, go_sem, c0, c1, c2, c3]) rfl ⟨one_said (k := 3) (t := t) H1.out HA.out, below3 hB (Nat.le_refl _) _ _ _⟩
def twosT : List ByteArray := [⟨#[58, 58]⟩, ⟨#[60, 61]⟩, ⟨#[61, 61]⟩, ⟨#[33, 61]⟩, ⟨#[38, 38]⟩, ⟨#[124, 124]⟩]
def onesT : List ByteArray := [⟨#[123]⟩, ⟨#[125]⟩, ⟨#[40]⟩, ⟨#[41]⟩, ⟨#[59]⟩, ⟨#[44]⟩, ⟨#[46]⟩, ⟨#[61]⟩, ⟨#[60]⟩, ⟨#[43]⟩, ⟨#[45]⟩, ⟨#[42]⟩, ⟨#[47]⟩, ⟨#[37]⟩, ⟨#[33]⟩, ⟨#[35]⟩, ⟨#[64]⟩]
theorem twosT_is (x : ByteArray) : hasText twosT x = twos.contains x.data.toList := rfl
theorem onesT_is (x : ByteArray) (b : UInt8) (h : x.data.toList = [b]) : hasText onesT x = ones.contains b := by
  unfold hasText
  rw [h]
  simp only [onesT, ones, List.map_cons, List.map_nil, List.contains_cons, List.contains_nil]
  have e : ∀ c : UInt8, ([b] == (#[c] : Array UInt8).toList) = (b == c) := by intro c; simp
  simp only [e]
theorem cells_lit2 (b : Nat) (w : World) (T : TypeId) (vs : Array Value) (ss : List ByteArray) (h : vs = (ss.map Value.string).toArray) (hb : b = w.heap.size) : ∀ k : Nat, k < ss.length → (w.alloc (.cells vs T)).cell? ⟨b, 0 + k, none⟩ = some (.string (ss.getD k ByteArray.empty)) := by
  subst hb; exact cells_lit w T vs ss h
theorem first_sign (s : ByteArray) (p : Nat) (h : p < s.size) (ha : alnum (bt s p : Nat) = false) (h34 : bt s p ≠ 34) : firstL (s.data.toList.drop p) = (4, (s.data.toList.drop p).take (markL (s.data.toList.drop p)), markL (s.data.toList.drop p)) := by
  obtain ⟨b, t, e, _, hbb⟩ := head_of s p h
  have hd : digit (bt s p : Nat) = false := (al0 ha).2.2
  have e1 : spanL digit (s.data.toList.drop p) = 0 := by rw [span_step digit s p h, if_neg (by rw [hd]; simp)]
  have e2 : spanL alnum (s.data.toList.drop p) = 0 := by rw [span_step alnum s p h, if_neg (by rw [ha]; simp)]
  have e3 : textLen (s.data.toList.drop p) = 0 := by rw [e, textLen, if_neg (by omega)]
  unfold firstL
  rw [e1, e2, e3, if_neg (by omega), if_neg (by omega), if_neg (by omega)]
theorem mark2 (l : List UInt8) (h : twos.contains (l.take 2) = true) : markL l = 2 := by unfold markL; rw [if_pos h]
theorem mark1 (s : ByteArray) (p : Nat) (h : p < s.size) (hn : twos.contains ((s.data.toList.drop p).take 2) = false) : markL (s.data.toList.drop p) = if ones.contains (s.get! p) = true then 1 else 0 := by
  obtain ⟨b, e, _, hg⟩ := dropc s p h
  unfold markL
  rw [if_neg (by rw [hn]; simp), e, ← hg]
theorem ex_one (s : ByteArray) (p : Nat) (h : p < s.size) : (s.extract p (p + 1)).data.toList = [s.get! p] := by
  obtain ⟨b, e, _, hg⟩ := dropc s p h
  rw [ex_take, e, ← hg]; rfl
theorem short_no (s : ByteArray) (p : Nat) (h : s.size < p + 2) : twos.contains ((s.data.toList.drop p).take 2) = false := by
  rw [Bool.eq_false_iff]
  intro hm
  rw [List.contains_iff_mem] at hm
  have key : ∀ x ∈ twos, x.length = 2 := by decide
  have := key _ hm
  rw [List.length_take, List.length_drop] at this
  have hl : s.data.toList.length = s.size := by simp
  omega
def in2 (x : ByteArray) : Bool := twos.contains x.data.toList
theorem in_twos (w : World) (b : Nat) (x : ByteArray) (hb : b = w.heap.size) : Calls Try.prog 27 #[.slice (some ⟨b, 0, none⟩) 6 6, .string x] (w.alloc (.cells #[.string ⟨#[58, 58]⟩, .string ⟨#[60, 61]⟩, .string ⟨#[61, 61]⟩, .string ⟨#[33, 61]⟩, .string ⟨#[38, 38]⟩, .string ⟨#[124, 124]⟩] 9)) fun e w' => e = .returned (.bool (in2 x)) ∧ (w.alloc (.cells #[.string ⟨#[58, 58]⟩, .string ⟨#[60, 61]⟩, .string ⟨#[61, 61]⟩, .string ⟨#[33, 61]⟩, .string ⟨#[38, 38]⟩, .string ⟨#[124, 124]⟩] 9)) = w' :=
  in_any b 0 6 6 twosT x _ rfl (by decide) (cells_lit2 b w _ _ twosT rfl hb)
theorem in_ones (w : World) (b : Nat) (x : ByteArray) (hb : b = w.heap.size) : Calls Try.prog 27 #[.slice (some ⟨b, 0, none⟩) 17 17, .string x] (w.alloc (.cells #[.string ⟨#[123]⟩, .string ⟨#[125]⟩, .string ⟨#[40]⟩, .string ⟨#[41]⟩, .string ⟨#[59]⟩, .string ⟨#[44]⟩, .string ⟨#[46]⟩, .string ⟨#[61]⟩, .string ⟨#[60]⟩, .string ⟨#[43]⟩, .string ⟨#[45]⟩, .string ⟨#[42]⟩, .string ⟨#[47]⟩, .string ⟨#[37]⟩, .string ⟨#[33]⟩, .string ⟨#[35]⟩, .string ⟨#[64]⟩] 9)) fun e w' => e = .returned (.bool (hasText onesT x)) ∧ (w.alloc (.cells #[.string ⟨#[123]⟩, .string ⟨#[125]⟩, .string ⟨#[40]⟩, .string ⟨#[41]⟩, .string ⟨#[59]⟩, .string ⟨#[44]⟩, .string ⟨#[46]⟩, .string ⟨#[61]⟩, .string ⟨#[60]⟩, .string ⟨#[43]⟩, .string ⟨#[45]⟩, .string ⟨#[42]⟩, .string ⟨#[47]⟩, .string ⟨#[37]⟩, .string ⟨#[33]⟩, .string ⟨#[35]⟩, .string ⟨#[64]⟩] 9)) = w' :=
  in_any b 0 17 17 onesT x _ rfl (by decide) (cells_lit2 b w _ _ onesT rfl hb)
end Go.Proofs.Ytolhanngkackcaa
