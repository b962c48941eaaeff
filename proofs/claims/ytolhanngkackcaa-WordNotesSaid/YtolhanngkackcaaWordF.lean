/- Contracts of the functions of package word that read all words. -/
import Derived.Test.YtolhanngkackcaaWordE
set_option linter.unusedSimpArgs false
set_option linter.unusedVariables false
namespace Go.Proofs.Ytolhanngkackcaa
open Go.RowKit

def wcells (x : Wd) : List Value := [.int .i64 x.k, .string ⟨x.t.toArray⟩, .int .i64 x.a]
def cellsW (l : List Wd) : List Value := l.flatMap wcells
theorem cellsW_snoc (l : List Wd) (x : Wd) : cellsW (l ++ [x]) = cellsW l ++ wcells x := by simp [cellsW]
theorem own_next {w w' : World} {base e size n : Nat} {v : Value} {xs : List Value} (h : w.ownsRow base e size v n xs) (hb : Below w.heap.size w w') : w'.ownsRow base e size v n xs :=
  h.kept (row := none) ⟨hb.os, hb.tape, hb.output, hb.size, fun k hk _ => hb.block k hk⟩ (by cases v.ownBlock <;> simp)
theorem below_own {B : Nat} {w a b : World} {base e size n : Nat} {v : Value} {xs : List Value} (h : Below B w a) (ho : a.ownsRow base e size v n xs) (hg : a.grownBy b v.ownBlock) (hB : B ≤ a.heap.size) (hb : B ≤ base) : Below B w b :=
  h.grown hg hB fun k hk => Nat.le_trans hb (ho.lt k hk).1
theorem Try.infoWord : (Try.prog.info? 32).map (fun i => (i.zero, i.size, i.bytes)) = some (some (.agg #[.int .i64 0, .string ⟨#[]⟩, .int .i64 0]), 3, 32) := by kernel_rfl
def CutSaid (s : ByteArray) (w : World) (e : Ending) (w' : World) : Prop := ∃ v : Value, e = .returned (.tuple #[v, .int .i64 (cutL s.data.toList 0).2]) ∧ w'.ownsRow w.heap.size 32 3 v (cutL s.data.toList 0).1.length (cellsW (cutL s.data.toList 0).1) ∧ Below w.heap.size w w'
theorem drop_ne (s : ByteArray) (p : Nat) (h : p < s.size) : s.data.toList.drop p ≠ [] := by
  obtain ⟨b, e, _⟩ := dropc s p h; rw [e]; simp
/-- One more word. -/
theorem cut_more (s : ByteArray) (p : Nat) (acc : List Wd) (h : p < s.size) (hc : cutL s.data.toList 0 = (acc ++ (wordsL (s.data.toList.drop p) p).1, (wordsL (s.data.toList.drop p) p).2)) (k n g : Nat) (t : List UInt8)
    (hf : firstL (s.data.toList.drop p) = (k, t, n)) (hn : n ≠ 0) (hg : gapL false (s.data.toList.drop (p + n)) = g) :
    cutL s.data.toList 0 = ((acc ++ [⟨k, t, p⟩]) ++ (wordsL (s.data.toList.drop (p + n + g)) (p + n + g)).1, (wordsL (s.data.toList.drop (p + n + g)) (p + n + g)).2) := by
  rw [hc, words_step _ p (drop_ne s p h) (by rw [hf]; exact hn), hf]
  simp only [List.drop_drop, cutL]
  rw [hg]; simp
theorem cut_stop (s : ByteArray) (p : Nat) (acc : List Wd) (h : p < s.size) (hc : cutL s.data.toList 0 = (acc ++ (wordsL (s.data.toList.drop p) p).1, (wordsL (s.data.toList.drop p) p).2)) (hn : (firstL (s.data.toList.drop p)).2.2 = 0) :
    cutL s.data.toList 0 = (acc, (p : Int)) := by
  rw [hc, words_none _ p (drop_ne s p h) hn]; simp
theorem cut_end (s : ByteArray) (p : Nat) (acc : List Wd) (h : ¬ p < s.size) (hc : cutL s.data.toList 0 = (acc ++ (wordsL (s.data.toList.drop p) p).1, (wordsL (s.data.toList.drop p) p).2)) :
    cutL s.data.toList 0 = (acc, -1) := by
  rw [hc, dropz s p h, words_nil]; simp
theorem cut_start (s : ByteArray) (g : Nat) (hg : gapL false s.data.toList = g) : cutL s.data.toList 0 = ([] ++ (wordsL (s.data.toList.drop g) g).1, (wordsL (s.data.toList.drop g) g).2) := by
  rw [cutL, hg]; simp
theorem cut_said {s : ByteArray} {w W : World} {v : Value} {acc : List Wd} {r : Int} (h : cutL s.data.toList 0 = (acc, r)) (ho : W.ownsRow w.heap.size 32 3 v acc.length (cellsW acc)) (hb : Below w.heap.size w W) :
    CutSaid s w (.returned (.tuple #[v, .int .i64 r])) W := ⟨v, by rw [h], by rw [h]; exact ho, hb⟩
theorem new_cells (w : World) (T : TypeId) (o : Obj) (x y z : Value) : ∀ (j : Nat) (u : Value), [x, y, z][j]? = some u → ((w.alloc o).alloc (.cells #[x, y, z] T)).cell? ((⟨w.heap.size + 1, 0, none⟩ : Addr).add j) = some u := by
  intro j u hj
  have hx : Bx ((w.alloc o).alloc (.cells #[x, y, z] T)) (w.heap.size + 1) #[x, y, z] T := by
    have := Bx.new (w.alloc o) #[x, y, z] T; simpa using this
  obtain ⟨c0, c1, c2, _⟩ := hx.get3
  match j, hj with
  | 0, hj => simp at hj; subst hj; exact c0
  | 1, hj => simp at hj; subst hj; exact c1
  | 2, hj => simp at hj; subst hj; exact c2
theorem three_one (k : Int) (t : ByteArray) (a : Int) : ∀ u ∈ [Value.int .i64 k, .string t, .int .i64 a], u.oneCell' = true := by
  intro u hu
  simp only [List.mem_cons, List.not_mem_nil, or_false] at hu
  rcases hu with rfl | rfl | rfl <;> rfl
set_option maxRecDepth 100000 in
set_option maxHeartbeats 4000000 in
theorem cut_any (s : ByteArray) (w : World) (hs : s.size ≤ 16777216) : Calls Try.prog 15 #[.string s] w (CutSaid s w) := by
  obtain ⟨g0, hg0⟩ : ∃ g, gapL false s.data.toList = g := ⟨_, rfl⟩
  have hg1 : g0 ≤ s.size := by have := gap_le s.data.toList false; simp at this; omega
  have H0 := Lib.hid (cut_start s g0 hg0)
  have HG0 : Hid (∀ w, Calls Try.prog 20 #[.string s] w fun e w' => e = .returned (.int .i64 (g0 : Nat)) ∧ Below w.heap.size w w') := by
    show ∀ w, _
    intro w; have := gap_any s w (by unfold maxLen; omega); rw [hg0] at this; exact this
  clear hg0
  obtain ⟨i0, hi, hz0, hz1, hz2⟩ := info_parts Try.infoWord
  go_enter Try.func15, Try.ntmps15
  go_wp2_with (go_at_call 20; refine (HG0.out _).mono ?_; clear HG0; rintro e w1 ⟨rfl, hb1⟩)
  go_loopw [4, 5] (fun v4 v5 wr => ∃ (p : Nat) (acc : List Wd), v5 = .int .i64 p ∧ p ≤ s.size ∧ wr.ownsRow w.heap.size 32 3 v4 acc.length (cellsW acc) ∧ Below w.heap.size w wr ∧ acc.length ≤ p ∧ cutL s.data.toList 0 = (acc ++ (wordsL (s.data.toList.drop p) p).1, (wordsL (s.data.toList.drop p) p).2)) (fun v4 v5 wr => s.size - (intOf v5).toNat)
  case atStart => exact ⟨g0, [], rfl, hg1, World.ownsRow_nil _ _ _ _, hb1, Nat.zero_le _, H0.out⟩
  case round =>
    obtain ⟨p, acc, rfl, hp, hown, hbw, hal, hc⟩ := hrel
    clear H0 hb1
    by_cases hlt : p < s.size
    · obtain ⟨k, t, n, hf⟩ : ∃ k t n, firstL (s.data.toList.drop p) = (k, t, n) := ⟨_, _, _, rfl⟩
      have hnl : p + n ≤ s.size := by
        have := first_le (s.data.toList.drop p); rw [hf] at this; simp at this; omega
      have hdx : (s.extract p s.size).data.toList = s.data.toList.drop p := drop_extract s p
      obtain ⟨tb, htb⟩ : ∃ tb : ByteArray, tb = ⟨t.toArray⟩ := ⟨_, rfl⟩
      have HF : Hid (∀ w, Calls Try.prog 21 #[.string (s.extract p s.size)] w fun e w' => e = .returned (.tuple #[.agg #[.int .i64 (k : Nat), .string tb, .int .i64 0], .int .i64 (n : Nat)]) ∧ Below w.heap.size w w') := by
        show ∀ w, _
        intro w
        have := first_any (s.extract p s.size) w (by simp; omega)
        unfold FirstSaid at this
        rw [hdx, hf, ← htb] at this
        exact this
      have hsz := hbw.size
      have hps : (p : Int) ≤ s.size := by omega
      by_cases hn : n = 0
      · subst hn
        have HS := Lib.hid (cut_stop s p acc hlt hc (by rw [hf])); clear hc hf hdx htb
        go_wp2_with (go_at_call 21; refine (HF.out _).mono ?_; clear HF; rintro e w2 ⟨rfl, hb2⟩)
        go_ret2
        exact cut_said HS.out ((own_next hown hb2).alloc _) ((hbw.trans (hb2.mono hsz)).alloc (Nat.le_trans hsz hb2.size) _)
      · have hnb : ((n : Int) == 0) = false := by rw [beq_eq_false_iff_ne]; omega
        obtain ⟨g, hg⟩ : ∃ g, gapL false (s.data.toList.drop (p + n)) = g := ⟨_, rfl⟩
        have hgl : p + n + g ≤ s.size := by have := gap_le (s.data.toList.drop (p + n)) false; rw [hg] at this; simp at this; omega
        have HS := Lib.hid (cut_more s p acc hlt hc k n g t hf hn hg)
        have HG : Hid (∀ w, Calls Try.prog 20 #[.string (s.extract (p + n) s.size)] w fun e w' => e = .returned (.int .i64 (g : Nat)) ∧ Below w.heap.size w w') := by
          show ∀ w, _
          intro w
          have := gap_any (s.extract (p + n) s.size) w (by unfold maxLen; simp; omega)
          rw [drop_extract s (p + n), hg] at this
          exact this
        have hpos : 0 < n := by omega
        have HTB := Lib.hid htb
        clear hc hf hdx htb hg hn
        go_wp2_with (first | (go_at_call 21; refine (HF.out _).mono ?_; clear HF; rintro e w2 ⟨rfl, hb2⟩) | (at_builtin; refine wpList_append_own _ rfl (.tmp 33) (.tmp 35) 23 rfl w.heap.size 32 i0 _ 3 32 Try.underlying23 hi hz0 hz1 hz2 rfl (by decide) _ _ _ rfl (((own_next hown hb2).alloc _).alloc _) ⟨w2.heap.size + 1, 0, none⟩ 1 1 [.int .i64 k, .string tb, .int .i64 p] rfl rfl ?c1 ?c2 ?c3 ?c4 ?c5 ?_))
        case c1 => exact new_cells w2 _ _ _ _ _
        case c2 => exact three_one _ _ _
        case c3 => unfold maxLen; omega
        case c4 => omega
        case c5 => have := hb2.size; simp; omega
        · intro v' w3 hown3 hgrow _
          have hB3 : Below w.heap.size w w3 := below_own ((((hbw.trans (hb2.mono hsz)).alloc (Nat.le_trans hsz hb2.size) _).alloc (by have := hb2.size; simp; omega) _)) (((own_next hown hb2).alloc _).alloc _) hgrow (by have := hb2.size; simp; omega) (Nat.le_refl _)
          have hO3 : w3.ownsRow w.heap.size 32 3 v' (acc ++ [(⟨k, t, p⟩ : Wd)]).length (cellsW (acc ++ [(⟨k, t, p⟩ : Wd)])) := by
            rw [cellsW_snoc, List.length_append]; rw [HTB.out] at hown3; exact hown3
          have hal3 : (acc ++ [(⟨k, t, p⟩ : Wd)]).length ≤ p + n := by simp; omega
          clear hown3 hgrow hb2 hbw hown
          have h1 : ((p : Int) + (n : Int)).toNat = p + n := by omega
          have h2 : 0 ≤ (p : Int) + (n : Int) := by omega
          have h3 : (p : Int) + (n : Int) ≤ s.size := by omega
          go_wp2_with (go_at_call 20; refine (HG.out _).mono ?_; clear HG; rintro e w4 ⟨rfl, hb4⟩)
          have hsz3 := hB3.size
          go_roundw
          case rel => exact ⟨p + n + g, _, by go_num, hgl, own_next hO3 hb4, hB3.trans (hb4.mono hsz3), by omega, HS.out⟩
          case measure => simp [intOf]; omega
    · have HS := Lib.hid (cut_end s p acc hlt hc); clear hc
      go_wp2
      go_ret2
      exact cut_said HS.out hown hbw
def AllSaid (s : ByteArray) (w : World) (e : Ending) (w' : World) : Prop := ∃ v : Value, e = .returned (.tuple #[v, .int .i64 (allE s), .int .i64 (allA s)]) ∧ w'.ownsRow w.heap.size 32 3 v (allW s).length (cellsW (allW s)) ∧ Below w.heap.size w w'
theorem all_said {s : ByteArray} {w W : World} {v : Value} {ws : List Wd} {x a : Int} (h1 : allW s = ws) (h2 : allE s = x) (h3 : allA s = a) (ho : W.ownsRow w.heap.size 32 3 v ws.length (cellsW ws)) (hb : Below w.heap.size w W) :
    AllSaid s w (.returned (.tuple #[v, .int .i64 x, .int .i64 a])) W := ⟨v, by rw [h2, h3], by rw [h1]; exact ho, hb⟩
theorem all_long (s : ByteArray) (h : 8000 < s.size) : allW s = [] ∧ allE s = 5 ∧ allA s = 0 := by
  unfold allW allE allA; rw [if_pos (.inl h), if_pos h, if_pos h]; exact ⟨rfl, rfl, rfl⟩
theorem all_wrong (s : ByteArray) (h : ¬ 8000 < s.size) (x : Int) (hx : wrongAt s = x) (h0 : 0 ≤ x) : allW s = [] ∧ allE s = 2 ∧ allA s = x := by
  unfold allW allE allA; rw [hx, if_pos (.inr h0), if_neg h, if_neg h, if_pos h0, if_pos h0]; exact ⟨rfl, rfl, rfl⟩
theorem all_right (s : ByteArray) (h : ¬ 8000 < s.size) (x : Int) (hx : wrongAt s = x) (h0 : ¬ 0 ≤ x) : allW s = (cutL s.data.toList 0).1 ∧ allE s = 0 ∧ allA s = 0 := by
  unfold allW allE allA; rw [hx, if_neg (by rintro (g | g); exact h g; exact h0 g), if_neg h, if_neg h, if_neg h0, if_neg h0]; exact ⟨rfl, rfl, rfl⟩
set_option maxHeartbeats 1000000 in
theorem all_any (s : ByteArray) (w : World) (hs : s.size ≤ maxLen) : Calls Try.prog 10 #[.string s] w (AllSaid s w) := by
  unfold maxLen at hs
  by_cases h8 : 8000 < s.size
  · have h8' : (8000 : Int) < s.size := by omega
    obtain ⟨a1, a2, a3⟩ := all_long s h8
    have A1 := Lib.hid a1; have A2 := Lib.hid a2; have A3 := Lib.hid a3; clear a1 a2 a3
    go_enter Try.func10, Try.ntmps10
    go_wp2
    refine bodyPost_ret (v := .tuple #[.slice none 0 0, .int .i64 5, .int .i64 0]) (by simp [results, Try.results10, go_sem]) rfl ?_
    exact all_said A1.out A2.out A3.out (World.ownsRow_nil _ _ _ _) (Below.refl _ _)
  · have h8' : (s.size : Int) ≤ 8000 := by omega
    obtain ⟨ws, c, hcut⟩ : ∃ ws c, cutL s.data.toList 0 = (ws, c) := ⟨_, _, rfl⟩
    obtain ⟨b, hb⟩ : ∃ b, bad s = b := ⟨_, rfl⟩
    have HC : Hid (∀ w, Calls Try.prog 15 #[.string s] w fun e w' => ∃ v : Value, e = .returned (.tuple #[v, .int .i64 c]) ∧ w'.ownsRow w.heap.size 32 3 v ws.length (cellsW ws) ∧ Below w.heap.size w w') := by
      show ∀ w, _
      intro w; have := cut_any s w (by omega); unfold CutSaid at this; rw [hcut] at this; exact this
    have HB : Hid (∀ w, Calls Try.prog 16 #[.string s] w fun e w' => e = .returned (.int .i64 b) ∧ Below w.heap.size w w') := by
      show ∀ w, _
      intro w; have := bad_any s w (by unfold maxLen; omega); rw [hb] at this; exact this
    have hw : wrongAt s = if 0 ≤ b ∧ (c < 0 ∨ b < c) then b else c := by unfold wrongAt; rw [hcut, hb]
    have H8 := Lib.hid h8
    have HW : Hid ((cutL s.data.toList 0).1 = ws) := by show (cutL s.data.toList 0).1 = ws; rw [hcut]
    clear hcut hb h8
    go_enter Try.func10, Try.ntmps10
    by_cases hb0 : 0 ≤ b
    · by_cases hx : c < 0 ∨ b < c
      · rw [if_pos ⟨hb0, hx⟩] at hw
        obtain ⟨a1, a2, a3⟩ := all_wrong s H8.out b hw hb0
        have A1 := Lib.hid a1; have A2 := Lib.hid a2; have A3 := Lib.hid a3; clear a1 a2 a3 hw
        rcases Int.lt_or_le c 0 with hc | hc
        · clear hx
          go_wp2_with (first | (go_at_call 15; refine (HC.out _).mono ?_; clear HC; rintro e w1 ⟨v, rfl, ho, hb1⟩) | (go_at_call 16; refine (HB.out _).mono ?_; clear HB; rintro e w2 ⟨rfl, hb2⟩))
          refine bodyPost_ret (v := .tuple #[.slice none 0 0, .int .i64 2, .int .i64 b]) (by simp [results, Try.results10, go_sem]) rfl ?_
          exact all_said A1.out A2.out A3.out (World.ownsRow_nil _ _ _ _) (hb1.trans (hb2.mono hb1.size))
        · have hx' : b < c := by rcases hx with h | h; omega; exact h
          clear hx
          go_wp2_with (first | (go_at_call 15; refine (HC.out _).mono ?_; clear HC; rintro e w1 ⟨v, rfl, ho, hb1⟩) | (go_at_call 16; refine (HB.out _).mono ?_; clear HB; rintro e w2 ⟨rfl, hb2⟩))
          refine bodyPost_ret (v := .tuple #[.slice none 0 0, .int .i64 2, .int .i64 b]) (by simp [results, Try.results10, go_sem]) rfl ?_
          exact all_said A1.out A2.out A3.out (World.ownsRow_nil _ _ _ _) (hb1.trans (hb2.mono hb1.size))
      · have hc : 0 ≤ c := by omega
        have hbc : c ≤ b := by omega
        rw [if_neg (fun h => hx h.2)] at hw
        obtain ⟨a1, a2, a3⟩ := all_wrong s H8.out c hw hc
        have A1 := Lib.hid a1; have A2 := Lib.hid a2; have A3 := Lib.hid a3; clear a1 a2 a3 hw hx
        go_wp2_with (first | (go_at_call 15; refine (HC.out _).mono ?_; clear HC; rintro e w1 ⟨v, rfl, ho, hb1⟩) | (go_at_call 16; refine (HB.out _).mono ?_; clear HB; rintro e w2 ⟨rfl, hb2⟩))
        refine bodyPost_ret (v := .tuple #[.slice none 0 0, .int .i64 2, .int .i64 c]) (by simp [results, Try.results10, go_sem]) rfl ?_
        exact all_said A1.out A2.out A3.out (World.ownsRow_nil _ _ _ _) (hb1.trans (hb2.mono hb1.size))
    · rw [if_neg (fun h => hb0 h.1)] at hw
      have hb0' : b < 0 := by omega
      by_cases hc : 0 ≤ c
      · obtain ⟨a1, a2, a3⟩ := all_wrong s H8.out c hw hc
        have A1 := Lib.hid a1; have A2 := Lib.hid a2; have A3 := Lib.hid a3; clear a1 a2 a3 hw hb0
        go_wp2_with (first | (go_at_call 15; refine (HC.out _).mono ?_; clear HC; rintro e w1 ⟨v, rfl, ho, hb1⟩) | (go_at_call 16; refine (HB.out _).mono ?_; clear HB; rintro e w2 ⟨rfl, hb2⟩))
        refine bodyPost_ret (v := .tuple #[.slice none 0 0, .int .i64 2, .int .i64 c]) (by simp [results, Try.results10, go_sem]) rfl ?_
        exact all_said A1.out A2.out A3.out (World.ownsRow_nil _ _ _ _) (hb1.trans (hb2.mono hb1.size))
      · obtain ⟨a1, a2, a3⟩ := all_right s H8.out c hw hc
        have A1 := Lib.hid a1; have A2 := Lib.hid a2; have A3 := Lib.hid a3; clear a1 a2 a3 hw hb0
        have hc' : c < 0 := by omega
        clear hc
        go_wp2_with (first | (go_at_call 15; refine (HC.out _).mono ?_; clear HC; rintro e w1 ⟨v, rfl, ho, hb1⟩) | (go_at_call 16; refine (HB.out _).mono ?_; clear HB; rintro e w2 ⟨rfl, hb2⟩))
        refine bodyPost_ret (v := .tuple #[v, .int .i64 0, .int .i64 0]) (by simp [results, Try.results10, go_sem]) rfl ?_
        exact all_said (A1.out.trans HW.out) A2.out A3.out (own_next ho hb2) (hb1.trans (hb2.mono hb1.size))
end Go.Proofs.Ytolhanngkackcaa
