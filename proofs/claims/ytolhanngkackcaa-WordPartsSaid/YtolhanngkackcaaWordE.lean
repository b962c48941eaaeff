/- Contract of the function of package word that reads one word. -/
import Derived.Test.YtolhanngkackcaaWordB
import Derived.Test.YtolhanngkackcaaWordC
import Derived.Test.YtolhanngkackcaaWordD
set_option linter.unusedSimpArgs false
set_option linter.unusedVariables false
namespace Go.Proofs.Ytolhanngkackcaa
open Go.RowKit

/-- A block of memory, known whole. -/
def Bx (w : World) (b : Nat) (cs : Array Value) (T : TypeId) : Prop := w.heap[b]? = some (.cells cs T (0, 0))
theorem Bx.new (w : World) (cs : Array Value) (T : TypeId) : Bx (w.alloc (.cells cs T)) w.heap.size cs T := heap_alloc_new w _
theorem Bx.lt {w : World} {b : Nat} {cs : Array Value} {T : TypeId} (h : Bx w b cs T) : b < w.heap.size := (Array.getElem?_eq_some_iff.1 h).1
theorem Bx.below {w w1 : World} {b B : Nat} {cs : Array Value} {T : TypeId} (h : Bx w b cs T) (hb : Below B w w1) (hB : b < B) : Bx w1 b cs T := (hb.block b hB).trans h
theorem Bx.next {w w1 : World} {b : Nat} {cs : Array Value} {T : TypeId} (h : Bx w b cs T) (hb : Below w.heap.size w w1) : Bx w1 b cs T := h.below hb h.lt
theorem Bx.get3 {w : World} {b : Nat} {x y z : Value} {T : TypeId} (h : Bx w b #[x, y, z] T) : w.cell? ⟨b, 0, none⟩ = some x ∧ w.cell? ⟨b, 1, none⟩ = some y ∧ w.cell? ⟨b, 2, none⟩ = some z ∧ ∀ o, w.frozen? ⟨b, o, none⟩ = false := by
  refine ⟨cell_of_row w b 0 _ T (0, 0) h, cell_of_row w b 1 _ T (0, 0) h, cell_of_row w b 2 _ T (0, 0) h, fun o => ?_⟩
  unfold Bx at h
  simp [World.frozen?, h]
theorem below3 {B : Nat} {w w2 : World} (h : Below B w w2) {b : Nat} (hb : B ≤ b) (x y z : Value) : Below B w (((w2.setCell ⟨b, 0, none⟩ x).setCell ⟨b, 1, none⟩ y).setCell ⟨b, 2, none⟩ z) :=
  ((h.setCell hb x).setCell hb y).setCell hb z
theorem below_box {w w1 : World} {o : Obj} (hb : Below (w.alloc o).heap.size (w.alloc o) w1) : Below w.heap.size w w1 :=
  ((Below.refl _ w).alloc (Nat.le_refl _) o).trans (hb.mono (by simp))
def FirstSaid (s : ByteArray) (w : World) : Prop := Calls Try.prog 21 #[.string s] w fun e w' => e = .returned (.tuple #[.agg #[.int .i64 ((firstL s.data.toList).1 : Nat), .string ⟨(firstL s.data.toList).2.1.toArray⟩, .int .i64 0], .int .i64 ((firstL s.data.toList).2.2 : Nat)]) ∧ Below w.heap.size w w'
theorem ba_is (s : ByteArray) (l : List UInt8) (h : s.data.toList = l) : s = ⟨l.toArray⟩ := by
  cases s with | mk d => subst h; simp
theorem take_ba (s : ByteArray) (n : Nat) : s.extract 0 n = ⟨(s.data.toList.take n).toArray⟩ := by
  apply ba_is; rw [extract_list, List.drop_zero, Nat.sub_zero]
set_option maxHeartbeats 1000000 in
theorem first_digits (s : ByteArray) (w : World) (hs : s.size ≤ 16777216) (h : 0 < spanL digit s.data.toList) : FirstSaid s w := by
  unfold FirstSaid
  have hle := span_le digit s.data.toList
  have hF : firstL s.data.toList = (2, s.data.toList.take (spanL digit s.data.toList), spanL digit s.data.toList) := by rw [firstL, if_pos h]
  obtain ⟨n, hn⟩ : ∃ n, n = spanL digit s.data.toList := ⟨_, rfl⟩
  have HD : Hid (∀ w, Calls Try.prog 29 #[.string s, .func (.func 30) #[] #[]] w fun e w' => e = .returned (.int .i64 (n : Nat)) ∧ Below w.heap.size w w') := by
    show ∀ w, _
    intro w; have := reach_digit s w (by unfold maxLen; omega); rw [← hn] at this; exact this
  rw [← hn] at hF h hle
  have hle' : n ≤ s.size := by simpa using hle
  have HF := Lib.hid hF; clear hF hn hle
  have ht := take_ba s n
  have HX := Lib.hid ht; clear ht
  go_enter Try.func21, Try.ntmps21
  go_wp2_with (first
    | (go_at_call 29; refine (HD.out _).mono ?_; clear HD; rintro e w1 ⟨rfl, hb⟩; have hx := (Bx.new w #[.int .i64 0, .string ⟨#[]⟩, .int .i64 0] 32).next hb; have hB := below_box hb; clear hb)
    | (go_at_call 31; refine (clone_any _ _ (by simp; omega)).mono ?_; rintro e w1 ⟨rfl, hb⟩; replace hx := hx.next hb; replace hB := hB.trans (hb.mono hB.size); clear hb; obtain ⟨c0, c1, c2, c3⟩ := hx.get3))
  refine bodyPost_ret (v := .tuple #[.agg #[.int .i64 2, .string (s.extract 0 n), .int .i64 0], .int .i64 n]) (by simp [results, Try.results21, go_sem, c0, c1, c2, c3]) rfl ⟨?_, below3 hB (Nat.le_refl _) _ _ _⟩
  rw [HF.out, HX.out]; rfl
set_option maxHeartbeats 1000000 in
theorem first_name (s : ByteArray) (w : World) (hs : s.size ≤ 16777216) (h0 : spanL digit s.data.toList = 0) (h : 0 < spanL alnum s.data.toList) : FirstSaid s w := by
  unfold FirstSaid
  have hle := span_le alnum s.data.toList
  have hF : firstL s.data.toList = (1, s.data.toList.take (spanL alnum s.data.toList), spanL alnum s.data.toList) := by rw [firstL, if_neg (by omega), if_pos h]
  obtain ⟨n, hn⟩ : ∃ n, n = spanL alnum s.data.toList := ⟨_, rfl⟩
  have HD : Hid (∀ w, Calls Try.prog 29 #[.string s, .func (.func 30) #[] #[]] w fun e w' => e = .returned (.int .i64 0) ∧ Below w.heap.size w w') := by
    show ∀ w, _
    intro w; have := reach_digit s w (by unfold maxLen; omega); rw [h0] at this; exact this
  have HA : Hid (∀ w, Calls Try.prog 29 #[.string s, .func (.func 32) #[] #[]] w fun e w' => e = .returned (.int .i64 (n : Nat)) ∧ Below w.heap.size w w') := by
    show ∀ w, _
    intro w; have := reach_alnum s w (by unfold maxLen; omega); rw [← hn] at this; exact this
  rw [← hn] at hF h hle
  have hle' : n ≤ s.size := by simpa using hle
  have HF := Lib.hid hF; clear hF hn hle h0
  have ht := take_ba s n
  have HX := Lib.hid ht; clear ht
  go_enter Try.func21, Try.ntmps21
  go_wp2_with (first
    | (go_at_call 29; refine (HD.out _).mono ?_; clear HD; rintro e w1 ⟨rfl, hb⟩; have hx := (Bx.new w #[.int .i64 0, .string ⟨#[]⟩, .int .i64 0] 32).next hb; have hB := below_box hb; clear hb)
    | (go_at_call 29; refine (HA.out _).mono ?_; clear HA; rintro e w1 ⟨rfl, hb⟩; replace hx := hx.next hb; replace hB := hB.trans (hb.mono hB.size); clear hb)
    | (go_at_call 31; refine (clone_any _ _ (by simp; omega)).mono ?_; rintro e w1 ⟨rfl, hb⟩; replace hx := hx.next hb; replace hB := hB.trans (hb.mono hB.size); clear hb; obtain ⟨c0, c1, c2, c3⟩ := hx.get3))
  refine bodyPost_ret (v := .tuple #[.agg #[.int .i64 1, .string (s.extract 0 n), .int .i64 0], .int .i64 n]) (by simp [results, Try.results21, go_sem, c0, c1, c2, c3]) rfl ⟨?_, below3 hB (Nat.le_refl _) _ _ _⟩
  rw [HF.out, HX.out]; rfl
theorem inner_is (s : ByteArray) (n : Nat) (h : n ≤ s.size) : s.extract 1 (n - 1) = inner s.data.toList n := by
  apply ba_is; rw [extract_list, List.drop_take]
set_option maxHeartbeats 1000000 in
theorem first_text (s : ByteArray) (w : World) (hs : s.size ≤ 16777216) (h0 : spanL digit s.data.toList = 0) (h1 : spanL alnum s.data.toList = 0) (h : 0 < textLen s.data.toList) (hp : plainOk (inner s.data.toList (textLen s.data.toList)) = true) : FirstSaid s w := by
  unfold FirstSaid
  have hle := text_le s.data.toList
  have hl : s.data.toList.length = s.size := by simp
  have hF : firstL s.data.toList = (3, plainText (inner s.data.toList (textLen s.data.toList)), textLen s.data.toList) := by rw [firstL, if_neg (by omega), if_neg (by omega), if_pos h, if_pos hp]
  obtain ⟨n, hn⟩ : ∃ n, n = textLen s.data.toList := ⟨_, rfl⟩
  have HD : Hid (∀ w, Calls Try.prog 29 #[.string s, .func (.func 30) #[] #[]] w fun e w' => e = .returned (.int .i64 0) ∧ Below w.heap.size w w') := by
    show ∀ w, _
    intro w; have := reach_digit s w (by unfold maxLen; omega); rw [h0] at this; exact this
  have HA : Hid (∀ w, Calls Try.prog 29 #[.string s, .func (.func 32) #[] #[]] w fun e w' => e = .returned (.int .i64 0) ∧ Below w.heap.size w w') := by
    show ∀ w, _
    intro w; have := reach_alnum s w (by unfold maxLen; omega); rw [h1] at this; exact this
  have HT : Hid (∀ w, Calls Try.prog 33 #[.string s] w fun e w' => e = .returned (.int .i64 (n : Nat)) ∧ Below w.heap.size w w') := by
    show ∀ w, _
    intro w; have := tlen_any s w hs; rw [← hn] at this; exact this
  (try rw [← hn] at hF)
  rw [← hn] at h hle hp
  have hn2 : 2 ≤ n := by omega
  have hle' : n ≤ s.size := by omega
  have hin := inner_is s n hle'
  obtain ⟨t, ht⟩ : ∃ t : ByteArray, t = ⟨(plainText (inner s.data.toList n)).toArray⟩ := ⟨_, rfl⟩
  have HP : Hid (∀ w, Calls Try.prog 34 #[.string (s.extract 1 (n - 1))] w fun e w' => e = .returned (.tuple #[.string t, .bool true]) ∧ Below w.heap.size w w') := by
    show ∀ w, _
    intro w
    have := plain_any (s.extract 1 (n - 1)) w (by simp; omega)
    rw [hin, hp, ← ht, ← hin] at this
    exact this
  have HF := Lib.hid hF; clear hF hn hle h0 h1 hin hp
  have HX := Lib.hid ht; clear ht
  have hsl : ∀ w : World, (Instr.slice 9 (.string s) (some (.int .i64 1)) (some (.int .i64 ((n : Int) - 1))) none).run Try.prog w = .ok (.string (s.extract 1 (n - 1))) w := by
    intro w
    have := run_slice_string (P := Try.prog) (w := w) 9 s .i64 .i64 1 ((n : Int) - 1) Try.underlying9 (by omega) (by omega) (by omega)
    rw [show ((n : Int) - 1).toNat = n - 1 from by omega] at this
    exact this
  go_enter Try.func21, Try.ntmps21
  go_wp2_with (first
    | (go_at_call 29; refine (HD.out _).mono ?_; clear HD; rintro e w1 ⟨rfl, hb⟩; have hx := (Bx.new w #[.int .i64 0, .string ⟨#[]⟩, .int .i64 0] 32).next hb; have hB := below_box hb; clear hb)
    | (go_at_call 29; refine (HA.out _).mono ?_; clear HA; rintro e w1 ⟨rfl, hb⟩; replace hx := hx.next hb; replace hB := hB.trans (hb.mono hB.size); clear hb)
    | (go_at_call 33; refine (HT.out _).mono ?_; clear HT; rintro e w1 ⟨rfl, hb⟩; replace hx := hx.next hb; replace hB := hB.trans (hb.mono hB.size); clear hb)
    | (go_at_call 34; refine (HP.out _).mono ?_; clear HP; rintro e w1 ⟨rfl, hb⟩; replace hx := hx.next hb; replace hB := hB.trans (hb.mono hB.size); clear hb; obtain ⟨c0, c1, c2, c3⟩ := hx.get3))
  refine bodyPost_ret (v := .tuple #[.agg #[.int .i64 3, .string t, .int .i64 0], .int .i64 n]) (by simp [results, Try.results21, go_sem, c0, c1, c2, c3]) rfl ⟨?_, below3 hB (Nat.le_refl _) _ _ _⟩
  rw [HF.out, HX.out]; rfl
set_option maxHeartbeats 1000000 in
theorem first_bad (s : ByteArray) (w : World) (hs : s.size ≤ 16777216) (h0 : spanL digit s.data.toList = 0) (h1 : spanL alnum s.data.toList = 0) (h : 0 < textLen s.data.toList) (hp : plainOk (inner s.data.toList (textLen s.data.toList)) = false) : FirstSaid s w := by
  unfold FirstSaid
  have hle := text_le s.data.toList
  have hl : s.data.toList.length = s.size := by simp
  have hF : firstL s.data.toList = (0, [], 0) := by rw [firstL, if_neg (by omega), if_neg (by omega), if_pos h, if_neg (by rw [hp]; simp)]
  obtain ⟨n, hn⟩ : ∃ n, n = textLen s.data.toList := ⟨_, rfl⟩
  have HD : Hid (∀ w, Calls Try.prog 29 #[.string s, .func (.func 30) #[] #[]] w fun e w' => e = .returned (.int .i64 0) ∧ Below w.heap.size w w') := by
    show ∀ w, _
    intro w; have := reach_digit s w (by unfold maxLen; omega); rw [h0] at this; exact this
  have HA : Hid (∀ w, Calls Try.prog 29 #[.string s, .func (.func 32) #[] #[]] w fun e w' => e = .returned (.int .i64 0) ∧ Below w.heap.size w w') := by
    show ∀ w, _
    intro w; have := reach_alnum s w (by unfold maxLen; omega); rw [h1] at this; exact this
  have HT : Hid (∀ w, Calls Try.prog 33 #[.string s] w fun e w' => e = .returned (.int .i64 (n : Nat)) ∧ Below w.heap.size w w') := by
    show ∀ w, _
    intro w; have := tlen_any s w hs; rw [← hn] at this; exact this
  (try rw [← hn] at hF)
  rw [← hn] at h hle hp
  have hn2 : 2 ≤ n := by omega
  have hle' : n ≤ s.size := by omega
  have hin := inner_is s n hle'
  obtain ⟨t, ht⟩ : ∃ t : ByteArray, t = ⟨(plainText (inner s.data.toList n)).toArray⟩ := ⟨_, rfl⟩
  have HP : Hid (∀ w, Calls Try.prog 34 #[.string (s.extract 1 (n - 1))] w fun e w' => e = .returned (.tuple #[.string t, .bool false]) ∧ Below w.heap.size w w') := by
    show ∀ w, _
    intro w
    have := plain_any (s.extract 1 (n - 1)) w (by simp; omega)
    rw [hin, hp, ← ht, ← hin] at this
    exact this
  have HF := Lib.hid hF; clear hF hn hle h0 h1 hin hp
  have HX := Lib.hid ht; clear ht
  have hsl : ∀ w : World, (Instr.slice 9 (.string s) (some (.int .i64 1)) (some (.int .i64 ((n : Int) - 1))) none).run Try.prog w = .ok (.string (s.extract 1 (n - 1))) w := by
    intro w
    have := run_slice_string (P := Try.prog) (w := w) 9 s .i64 .i64 1 ((n : Int) - 1) Try.underlying9 (by omega) (by omega) (by omega)
    rw [show ((n : Int) - 1).toNat = n - 1 from by omega] at this
    exact this
  go_enter Try.func21, Try.ntmps21
  go_wp2_with (first
    | (go_at_call 29; refine (HD.out _).mono ?_; clear HD; rintro e w1 ⟨rfl, hb⟩; have hx := (Bx.new w #[.int .i64 0, .string ⟨#[]⟩, .int .i64 0] 32).next hb; have hB := below_box hb; clear hb)
    | (go_at_call 29; refine (HA.out _).mono ?_; clear HA; rintro e w1 ⟨rfl, hb⟩; replace hx := hx.next hb; replace hB := hB.trans (hb.mono hB.size); clear hb)
    | (go_at_call 33; refine (HT.out _).mono ?_; clear HT; rintro e w1 ⟨rfl, hb⟩; replace hx := hx.next hb; replace hB := hB.trans (hb.mono hB.size); clear hb)
    | (go_at_call 34; refine (HP.out _).mono ?_; clear HP; rintro e w1 ⟨rfl, hb⟩; replace hx := hx.next hb; replace hB := hB.trans (hb.mono hB.size); clear hb; obtain ⟨c0, c1, c2, c3⟩ := hx.get3))
  refine bodyPost_ret (v := .tuple #[.agg #[.int .i64 0, .string ⟨#[]⟩, .int .i64 0], .int .i64 0]) (by simp [results, Try.results21, go_sem, c0, c1, c2, c3]) rfl ⟨?_, below3 hB (Nat.le_refl _) _ _ _⟩
  rw [HF.out]; rfl
set_option maxHeartbeats 1000000 in
theorem first_mark (s : ByteArray) (w : World) (hs : s.size ≤ 16777216) (h0 : spanL digit s.data.toList = 0) (h1 : spanL alnum s.data.toList = 0) (h2 : textLen s.data.toList = 0) : FirstSaid s w := by
  unfold FirstSaid
  have hle := mark_le s.data.toList
  have hF : firstL s.data.toList = (4, s.data.toList.take (markL s.data.toList), markL s.data.toList) := by rw [firstL, if_neg (by omega), if_neg (by omega), if_neg (by omega)]
  obtain ⟨n, hn⟩ : ∃ n, n = markL s.data.toList := ⟨_, rfl⟩
  have HD : Hid (∀ w, Calls Try.prog 29 #[.string s, .func (.func 30) #[] #[]] w fun e w' => e = .returned (.int .i64 0) ∧ Below w.heap.size w w') := by
    show ∀ w, _
    intro w; have := reach_digit s w (by unfold maxLen; omega); rw [h0] at this; exact this
  have HA : Hid (∀ w, Calls Try.prog 29 #[.string s, .func (.func 32) #[] #[]] w fun e w' => e = .returned (.int .i64 0) ∧ Below w.heap.size w w') := by
    show ∀ w, _
    intro w; have := reach_alnum s w (by unfold maxLen; omega); rw [h1] at this; exact this
  have HT : Hid (∀ w, Calls Try.prog 33 #[.string s] w fun e w' => e = .returned (.int .i64 0) ∧ Below w.heap.size w w') := by
    show ∀ w, _
    intro w; have := tlen_any s w hs; rw [h2] at this; exact this
  have HM : Hid (∀ w, Calls Try.prog 35 #[.string s] w fun e w' => e = .returned (.int .i64 (n : Nat)) ∧ w = w') := by
    show ∀ w, _
    intro w; have := mark_any s w hs; rw [← hn] at this; exact this
  rw [← hn] at hF hle
  have hle' : n ≤ s.size := by simpa using hle
  have HF := Lib.hid hF; clear hF hn hle h0 h1 h2
  have ht := take_ba s n
  have HX := Lib.hid ht; clear ht
  go_enter Try.func21, Try.ntmps21
  go_wp2_with (first
    | (go_at_call 29; refine (HD.out _).mono ?_; clear HD; rintro e w1 ⟨rfl, hb⟩; have hx := (Bx.new w #[.int .i64 0, .string ⟨#[]⟩, .int .i64 0] 32).next hb; have hB := below_box hb; clear hb)
    | (go_at_call 29; refine (HA.out _).mono ?_; clear HA; rintro e w1 ⟨rfl, hb⟩; replace hx := hx.next hb; replace hB := hB.trans (hb.mono hB.size); clear hb)
    | (go_at_call 33; refine (HT.out _).mono ?_; clear HT; rintro e w1 ⟨rfl, hb⟩; replace hx := hx.next hb; replace hB := hB.trans (hb.mono hB.size); clear hb)
    | (go_at_call 35; refine (HM.out _).mono ?_; clear HM; rintro e w1 ⟨rfl, rfl⟩)
    | (go_at_call 31; refine (clone_any _ _ (by simp; omega)).mono ?_; rintro e w1 ⟨rfl, hb⟩; replace hx := hx.next hb; replace hB := hB.trans (hb.mono hB.size); clear hb; obtain ⟨c0, c1, c2, c3⟩ := hx.get3))
  refine bodyPost_ret (v := .tuple #[.agg #[.int .i64 4, .string (s.extract 0 n), .int .i64 0], .int .i64 n]) (by simp [results, Try.results21, go_sem, c0, c1, c2, c3]) rfl ⟨?_, below3 hB (Nat.le_refl _) _ _ _⟩
  rw [HF.out, HX.out]; rfl
theorem first_any (s : ByteArray) (w : World) (hs : s.size ≤ 16777216) : FirstSaid s w := by
  by_cases h0 : 0 < spanL digit s.data.toList
  · exact first_digits s w hs h0
  by_cases h1 : 0 < spanL alnum s.data.toList
  · exact first_name s w hs (by omega) h1
  by_cases h2 : 0 < textLen s.data.toList
  · cases hp : plainOk (inner s.data.toList (textLen s.data.toList))
    · exact first_bad s w hs (by omega) (by omega) h2 hp
    · exact first_text s w hs (by omega) (by omega) h2 hp
  · exact first_mark s w hs (by omega) (by omega) (by omega)
end Go.Proofs.Ytolhanngkackcaa
