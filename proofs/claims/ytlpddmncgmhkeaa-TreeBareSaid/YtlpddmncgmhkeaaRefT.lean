/- The document's sameness of statements: changelingref1.SameStmts. -/
import Derived.Test.YtlpddmncgmhkeaaRefS
import Derived.Test.YtlpddmncgmhkeaaBareC
set_option linter.unusedSimpArgs false
set_option linter.unusedVariables false
namespace Go.Proofs.Ytlpddmncgmhkeaa
open Go.RowKit
theorem same_st (k n : Int) (ty nm : ByteArray) (ve va vb vc : Value) (e a b c : List Nd) (nth : Int) (k' n' : Int) (ty' nm' : ByteArray) (ve' va' vb' vc' : Value) (e' a' b' c' : List Nd) (nth' : Int) :
    sameL [.st k n ty nm ve va vb vc e a b c nth] [.st k' n' ty' nm' ve' va' vb' vc' e' a' b' c' nth'] = ((k == k') && ((n == n') && ((ty.toList == ty'.toList) && ((nm.toList == nm'.toList) && (sameL e e' && (sameL a a' && (sameL b b' && sameL c c'))))))) := by
  rw [sameL_one]
  simp only [alikeB, Nd.kids]
  by_cases h1 : e.length = e'.length
  · by_cases h2 : a.length = a'.length
    · by_cases h3 : b.length = b'.length
      · by_cases h4 : c.length = c'.length
        · rw [sameL_append (e ++ a ++ b) (e' ++ a' ++ b') c c' (by simp; omega), sameL_append (e ++ a) (e' ++ a') b b' (by simp; omega), sameL_append e e' a a' h1, beq_iff_eq.2 h1, beq_iff_eq.2 h2, beq_iff_eq.2 h3, beq_iff_eq.2 h4]
          simp only [Bool.and_true, Bool.and_assoc]
        · rw [sameL_ne c c' h4, beq_eq_false_iff_ne.2 h4]; simp
      · rw [sameL_ne b b' h3, beq_eq_false_iff_ne.2 h3]; simp
    · rw [sameL_ne a a' h2, beq_eq_false_iff_ne.2 h2]; simp
  · rw [sameL_ne e e' h1, beq_eq_false_iff_ne.2 h1]; simp
theorem below_cells {B : Nat} {a w : World} (h : Below B a w) {b : Nat} (hb : B ≤ b) (us : List Value) (o : Nat) : Below B a (w.setCells b o us) := by
  induction us generalizing o w with
  | nil => exact h
  | cons u us ih => rw [World.setCells]; exact ih (h.setCell hb u) (o + 1)
theorem gen_world' {P : Program} {c : Code} {Q : Exit → Act → World → Prop} {a : Act} {W0 : World} (F : World → Prop) (h0 : F W0) (h : ∀ W, F W → Code.wp P c Q a W) : Code.wp P c Q a W0 := h W0 h0
theorem bx_up {w : World} {b : Nat} {cs : Array Value} {T : TypeId} (h : Bx w b cs T) (o : Obj) : Bx (w.alloc o) b cs T := h.next ((Below.refl _ _).alloc (Nat.le_refl _) _)
theorem bx_at {w : World} {b : Nat} {cs : Array Value} {T : TypeId} (hb : b = w.heap.size) : Bx (w.alloc (.cells cs T)) b cs T := by subst hb; exact Bx.new _ _ _
def StSame (s : Nat) : Prop := ∀ (w : World) (v v' : Value) (l l' : List Nd), sizeL l ≤ s → Rw w .st v l → KdL w l → Rw w .st v' l' → KdL w l' → Calls Try.prog 55 #[v, v'] w fun e w' => e = .returned (.bool (sameL l l')) ∧ Below w.heap.size w w'
set_option maxRecDepth 100000 in
set_option maxHeartbeats 4000000 in
theorem ref_same_stmts_any : ∀ s, s ≤ 1000000 → StSame s := by
  intro s
  induction s using Nat.strongRecOn with
  | ind s ih =>
    intro hs w v v' l l' hl hr hk hr' hk'
    obtain ⟨A, cap, rfl⟩ := hr.form
    obtain ⟨A', cap', rfl⟩ := hr'.form
    have hlen : l.length ≤ 1000000 := by have := len_sizeL l; omega
    have hlen' : l'.length ≤ maxLen := by obtain ⟨_, _, _, h, _⟩ := hr'; exact h.1
    unfold maxLen at hlen'
    obtain ⟨q, hq⟩ : ∃ q, sameL l l' = q := ⟨_, rfl⟩
    rw [hq]
    by_cases hne : l.length = l'.length
    · obtain ⟨n, hn⟩ : ∃ n, l.length = n := ⟨_, rfl⟩
      have hn' : l'.length = n := hne ▸ hn
      rw [hn] at hr hlen ⊢
      rw [hn'] at hr' ⊢
      have HR := Lib.hid hr; have HK := Lib.hid hk; have HR' := Lib.hid hr'; have HK' := Lib.hid hk'
      have HLN := Lib.hid hn; have HLN' := Lib.hid hn'
      have HS0 := Lib.hid (show sameL (l.drop 0) (l'.drop 0) = q by simpa using hq)
      have HL := Lib.hid hl
      clear hr hk hr' hk' hn hn' hne hq hlen' hl
      go_enter Try.func55, Try.ntmps55
      go_wp2
      go_loopw [5] (fun v5 wr => ∃ k : Nat, v5 = .int .i64 k ∧ k ≤ n ∧ sameL (l.drop k) (l'.drop k) = q ∧ Below w.heap.size w wr) (fun v5 wr => n - (intOf v5).toNat)
      case atStart => exact ⟨0, rfl, Nat.zero_le _, HS0.out, Below.refl _ _⟩
      case round =>
        obtain ⟨k, rfl, hkn, hsk, hB⟩ := hrel
        clear HS0
        by_cases hlt : k < n
        · have K := Keep.below hB
          obtain ⟨b, o, x, rfl, hx, hxt, hc⟩ := (HR.out.keep K).get hlt
          obtain ⟨b', o', y, rfl, hy, hyt, hc'⟩ := (HR'.out.keep K).get hlt
          have hxk := KdL.mem_get (KdL.keep K _ HK.out) hx
          have hyk := KdL.mem_get (KdL.keep K _ HK'.out) hy
          rw [sameL_drop hx hy] at hsk
          have hxs : x.size ≤ s := Nat.le_trans (size_mem (List.mem_of_getElem? hx)) HL.out
          cases x <;> first | (simp [Nd.tag] at hxt; done) | skip
          rename_i xk xn xty xnm xve xva xvb xvc xe xa xb xc xnth
          cases y <;> first | (simp [Nd.tag] at hyt; done) | skip
          rename_i yk yn yty ynm yve yva yvb yvc ye ya yb yc ynth
          rw [same_st] at hsk
          rw [Kd] at hxk hyk
          have hsz : (Nd.st xk xn xty xnm xve xva xvb xvc xe xa xb xc xnth).size = 1 + (sizeL xe + sizeL xa + sizeL xb + sizeL xc) := by simp [Nd.size]
          have HE : Hid (∀ w', Below wr.heap.size wr w' → Calls Try.prog 54 #[xve, yve] w' fun r w'' => r = .returned (.bool (sameL xe ye)) ∧ Below w'.heap.size w' w'') := by
            show ∀ w', _
            intro w' hb; have K := Keep.below hb
            exact ref_sames_any (sizeL xe) (by omega) w' xve yve xe ye (Nat.le_refl _) (hxk.2.1.1.keep K) (KdL.keep K _ hxk.2.1.2) (hyk.2.1.1.keep K) (KdL.keep K _ hyk.2.1.2)
          have HA : Hid (∀ w', Below wr.heap.size wr w' → Calls Try.prog 55 #[xva, yva] w' fun r w'' => r = .returned (.bool (sameL xa ya)) ∧ Below w'.heap.size w' w'') := by
            show ∀ w', _
            intro w' hb; have K := Keep.below hb
            exact ih (sizeL xa) (by omega) (by omega) w' xva yva xa ya (Nat.le_refl _) (hxk.2.2.1.1.keep K) (KdL.keep K _ hxk.2.2.1.2) (hyk.2.2.1.1.keep K) (KdL.keep K _ hyk.2.2.1.2)
          have HBb : Hid (∀ w', Below wr.heap.size wr w' → Calls Try.prog 55 #[xvb, yvb] w' fun r w'' => r = .returned (.bool (sameL xb yb)) ∧ Below w'.heap.size w' w'') := by
            show ∀ w', _
            intro w' hb; have K := Keep.below hb
            exact ih (sizeL xb) (by omega) (by omega) w' xvb yvb xb yb (Nat.le_refl _) (hxk.2.2.2.1.1.keep K) (KdL.keep K _ hxk.2.2.2.1.2) (hyk.2.2.2.1.1.keep K) (KdL.keep K _ hyk.2.2.2.1.2)
          have HC : Hid (∀ w', Below wr.heap.size wr w' → Calls Try.prog 55 #[xvc, yvc] w' fun r w'' => r = .returned (.bool (sameL xc yc)) ∧ Below w'.heap.size w' w'') := by
            show ∀ w', _
            intro w' hb; have K := Keep.below hb
            exact ih (sizeL xc) (by omega) (by omega) w' xvc yvc xc yc (Nat.le_refl _) (hxk.2.2.2.2.1.keep K) (KdL.keep K _ hxk.2.2.2.2.2) (hyk.2.2.2.2.1.keep K) (KdL.keep K _ hyk.2.2.2.2.2)
          have x0 := hc 0 _ rfl; have x1 := hc 1 _ rfl; have x2 := hc 2 _ rfl; have x3 := hc 3 _ rfl; have x4 := hc 4 _ rfl; have x5 := hc 5 _ rfl; have x6 := hc 6 _ rfl; have x7 := hc 7 _ rfl; have x8 := hc 8 _ rfl
          have y0 := hc' 0 _ rfl; have y1 := hc' 1 _ rfl; have y2 := hc' 2 _ rfl; have y3 := hc' 3 _ rfl; have y4 := hc' 4 _ rfl; have y5 := hc' 5 _ rfl; have y6 := hc' 6 _ rfl; have y7 := hc' 7 _ rfl; have y8 := hc' 8 _ rfl
          simp only [Tg.sz, Nat.add_zero] at x0 x1 x2 x3 x4 x5 x6 x7 x8 y0 y1 y2 y3 y4 y5 y6 y7 y8
          obtain ⟨q0, h0⟩ : ∃ q, (xk == yk) = q := ⟨_, rfl⟩
          obtain ⟨q1, h1⟩ : ∃ q, (xn == yn) = q := ⟨_, rfl⟩
          obtain ⟨q2, h2⟩ : ∃ q, (xty.toList == yty.toList) = q := ⟨_, rfl⟩
          obtain ⟨q3, h3⟩ : ∃ q, (xnm.toList == ynm.toList) = q := ⟨_, rfl⟩
          obtain ⟨q4, h4⟩ : ∃ q, sameL xe ye = q := ⟨_, rfl⟩
          obtain ⟨q5, h5⟩ : ∃ q, sameL xa ya = q := ⟨_, rfl⟩
          obtain ⟨q6, h6⟩ : ∃ q, sameL xb yb = q := ⟨_, rfl⟩
          obtain ⟨q7, h7⟩ : ∃ q, sameL xc yc = q := ⟨_, rfl⟩
          rw [h0, h1, h2, h3, h4, h5, h6, h7] at hsk
          rw [h4] at HE; rw [h5] at HA; rw [h6] at HBb; rw [h7] at HC
          obtain ⟨A1, n1, rfl⟩ := hxk.2.1.1.form
          obtain ⟨A2, n2, rfl⟩ := hxk.2.2.1.1.form
          obtain ⟨A3, n3, rfl⟩ := hxk.2.2.2.1.1.form
          obtain ⟨A4, n4, rfl⟩ := hxk.2.2.2.2.1.form
          obtain ⟨B1, m1, rfl⟩ := hyk.2.1.1.form
          obtain ⟨B2, m2, rfl⟩ := hyk.2.2.1.1.form
          obtain ⟨B3, m3, rfl⟩ := hyk.2.2.2.1.1.form
          obtain ⟨B4, m4, rfl⟩ := hyk.2.2.2.2.1.form
          have HB := Lib.hid hB
          have HSK := Lib.hid hsk
          have hi0 : (0 : Int) ≤ (k : Int) := by omega
          have hi1 : (k : Int) < (n : Int) := by omega
          clear hc hc' hxk hyk hx hy hsz hxt hyt K hB hxs hsk ih h4 h5 h6 h7
          have HS : Hid (∀ w', Below wr.heap.size wr w' → w'.cell? ⟨b, o + k * 9, none⟩ = some (.int .i64 xk) ∧ w'.cell? ⟨b, o + k * 9 + 1, none⟩ = some (.int .i32 xn) ∧ w'.cell? ⟨b, o + k * 9 + 2, none⟩ = some (.string xty) ∧ w'.cell? ⟨b, o + k * 9 + 3, none⟩ = some (.string xnm) ∧ w'.cell? ⟨b, o + k * 9 + 4, none⟩ = some (.slice A1 xe.length n1) ∧ w'.cell? ⟨b, o + k * 9 + 5, none⟩ = some (.slice A2 xa.length n2) ∧ w'.cell? ⟨b, o + k * 9 + 6, none⟩ = some (.slice A3 xb.length n3) ∧ w'.cell? ⟨b, o + k * 9 + 7, none⟩ = some (.slice A4 xc.length n4) ∧ w'.cell? ⟨b, o + k * 9 + 8, none⟩ = some (.int .i64 xnth) ∧ w'.cell? ⟨b', o' + k * 9, none⟩ = some (.int .i64 yk) ∧ w'.cell? ⟨b', o' + k * 9 + 1, none⟩ = some (.int .i32 yn) ∧ w'.cell? ⟨b', o' + k * 9 + 2, none⟩ = some (.string yty) ∧ w'.cell? ⟨b', o' + k * 9 + 3, none⟩ = some (.string ynm) ∧ w'.cell? ⟨b', o' + k * 9 + 4, none⟩ = some (.slice B1 ye.length m1) ∧ w'.cell? ⟨b', o' + k * 9 + 5, none⟩ = some (.slice B2 ya.length m2) ∧ w'.cell? ⟨b', o' + k * 9 + 6, none⟩ = some (.slice B3 yb.length m3) ∧ w'.cell? ⟨b', o' + k * 9 + 7, none⟩ = some (.slice B4 yc.length m4) ∧ w'.cell? ⟨b', o' + k * 9 + 8, none⟩ = some (.int .i64 ynth)) := by
            show ∀ w', _
            intro w' hb
            have K := Keep.below hb
            exact ⟨K _ _ x0, K _ _ x1, K _ _ x2, K _ _ x3, K _ _ x4, K _ _ x5, K _ _ x6, K _ _ x7, K _ _ x8, K _ _ y0, K _ _ y1, K _ _ y2, K _ _ y3, K _ _ y4, K _ _ y5, K _ _ y6, K _ _ y7, K _ _ y8⟩
          clear x0 x1 x2 x3 x4 x5 x6 x7 x8 y0 y1 y2 y3 y4 y5 y6 y7 y8
          go_wp2_with fail
          go_region_held3 (fun w' => w'.cell? ⟨b, o + k * 9, none⟩ = some (.int .i64 xk) ∧ w'.cell? ⟨b, o + k * 9 + 1, none⟩ = some (.int .i32 xn) ∧ w'.cell? ⟨b, o + k * 9 + 2, none⟩ = some (.string xty) ∧ w'.cell? ⟨b, o + k * 9 + 3, none⟩ = some (.string xnm) ∧ w'.cell? ⟨b, o + k * 9 + 4, none⟩ = some (.slice A1 xe.length n1) ∧ w'.cell? ⟨b, o + k * 9 + 5, none⟩ = some (.slice A2 xa.length n2) ∧ w'.cell? ⟨b, o + k * 9 + 6, none⟩ = some (.slice A3 xb.length n3) ∧ w'.cell? ⟨b, o + k * 9 + 7, none⟩ = some (.slice A4 xc.length n4) ∧ w'.cell? ⟨b, o + k * 9 + 8, none⟩ = some (.int .i64 xnth) ∧ w'.cell? ⟨b', o' + k * 9, none⟩ = some (.int .i64 yk) ∧ w'.cell? ⟨b', o' + k * 9 + 1, none⟩ = some (.int .i32 yn) ∧ w'.cell? ⟨b', o' + k * 9 + 2, none⟩ = some (.string yty) ∧ w'.cell? ⟨b', o' + k * 9 + 3, none⟩ = some (.string ynm) ∧ w'.cell? ⟨b', o' + k * 9 + 4, none⟩ = some (.slice B1 ye.length m1) ∧ w'.cell? ⟨b', o' + k * 9 + 5, none⟩ = some (.slice B2 ya.length m2) ∧ w'.cell? ⟨b', o' + k * 9 + 6, none⟩ = some (.slice B3 yb.length m3) ∧ w'.cell? ⟨b', o' + k * 9 + 7, none⟩ = some (.slice B4 yc.length m4) ∧ w'.cell? ⟨b', o' + k * 9 + 8, none⟩ = some (.int .i64 ynth))
            (with_reducible refine HS.out _ ?_; repeat (first | with_reducible exact Below.refl _ _ | with_reducible refine Below.drew ?_ | with_reducible refine Below.alloc ?_ (by simp; try omega) _ | with_reducible refine below_cells ?_ (by simp) _ _ | with_reducible refine Below.setCell ?_ (by simp) _))
            (fail)
          all_goals (rename_i hHeld; clear hHeld HS)
          all_goals first
            | (obtain ⟨W, hW⟩ : ∃ W, ((wr.alloc (.cells #[.int .i64 xk, .int .i32 xn, .string xty, .string xnm, .slice A1 xe.length n1, .slice A2 xa.length n2, .slice A3 xb.length n3, .slice A4 xc.length n4, .int .i64 xnth] 47)).alloc (.cells #[.int .i64 yk, .int .i32 yn, .string yty, .string ynm, .slice B1 ye.length m1, .slice B2 ya.length m2, .slice B3 yb.length m3, .slice B4 yc.length m4, .int .i64 ynth] 47)).drew = W := ⟨_, rfl⟩
               rw [hW]
               have hF : Below wr.heap.size wr W ∧ Bx W wr.heap.size #[.int .i64 xk, .int .i32 xn, .string xty, .string xnm, .slice A1 xe.length n1, .slice A2 xa.length n2, .slice A3 xb.length n3, .slice A4 xc.length n4, .int .i64 xnth] 47 ∧ Bx W (wr.heap.size + 1) #[.int .i64 yk, .int .i32 yn, .string yty, .string ynm, .slice B1 ye.length m1, .slice B2 ya.length m2, .slice B3 yb.length m3, .slice B4 yc.length m4, .int .i64 ynth] 47 := by
                 rw [← hW]; exact ⟨((((Below.refl _ wr).alloc (Nat.le_refl _) _).alloc (by simp) _).drew), bx_up (Bx.new _ _ _) _, bx_at (by simp)⟩)
            | (obtain ⟨W, hW⟩ : ∃ W, ((wr.alloc (.cells #[.int .i64 yk, .int .i32 yn, .string yty, .string ynm, .slice B1 ye.length m1, .slice B2 ya.length m2, .slice B3 yb.length m3, .slice B4 yc.length m4, .int .i64 ynth] 47)).alloc (.cells #[.int .i64 xk, .int .i32 xn, .string xty, .string xnm, .slice A1 xe.length n1, .slice A2 xa.length n2, .slice A3 xb.length n3, .slice A4 xc.length n4, .int .i64 xnth] 47)).drew = W := ⟨_, rfl⟩
               rw [hW]
               have hF : Below wr.heap.size wr W ∧ Bx W (wr.heap.size + 1) #[.int .i64 xk, .int .i32 xn, .string xty, .string xnm, .slice A1 xe.length n1, .slice A2 xa.length n2, .slice A3 xb.length n3, .slice A4 xc.length n4, .int .i64 xnth] 47 ∧ Bx W wr.heap.size #[.int .i64 yk, .int .i32 yn, .string yty, .string ynm, .slice B1 ye.length m1, .slice B2 ya.length m2, .slice B3 yb.length m3, .slice B4 yc.length m4, .int .i64 ynth] 47 := by
                 rw [← hW]; exact ⟨((((Below.refl _ wr).alloc (Nat.le_refl _) _).alloc (by simp) _).drew), bx_at (by simp), bx_up (Bx.new _ _ _) _⟩)
          all_goals
            clear hW
            obtain ⟨hbw, hx, hy⟩ := hF
            obtain ⟨x0, x1, x2, x3, x4, x5, x6, x7, _⟩ := hx.get_9
            obtain ⟨y0, y1, y2, y3, y4, y5, y6, y7, _⟩ := hy.get_9
            have HS2 : Hid (∀ w', Below W.heap.size W w' → _) := fun w' hb => And.intro (hx.next hb) (hy.next hb)
            subst h0 h1
            clear hx hy
            go_wp2_with (first
              | (go_at_call 54; refine (HE.out _ hbw).mono ?_; rintro r w1 ⟨rfl, hd1⟩; have hb1 := hbw.trans (hd1.mono hbw.size); obtain ⟨hx1, hy1⟩ := HS2.out _ hd1; obtain ⟨_, _, _, _, _, x5, x6, x7, _⟩ := hx1.get_9; obtain ⟨_, _, _, _, _, y5, y6, y7, _⟩ := hy1.get_9; clear hx1 hy1)
              | (go_at_call_of 55 (Value.slice A2 xa.length n2); refine (HA.out _ hb1).mono ?_; rintro r w2 ⟨rfl, hc2⟩; have hb2 := hb1.trans (hc2.mono hb1.size); have hd2 := hd1.trans (hc2.mono hd1.size); clear hc2; obtain ⟨hx2, hy2⟩ := HS2.out _ hd2; obtain ⟨_, _, _, _, _, _, x6, x7, _⟩ := hx2.get_9; obtain ⟨_, _, _, _, _, _, y6, y7, _⟩ := hy2.get_9; clear hx2 hy2)
              | (go_at_call_of 55 (Value.slice A3 xb.length n3); refine (HBb.out _ hb2).mono ?_; rintro r w3 ⟨rfl, hc3⟩; have hb3 := hb2.trans (hc3.mono hb2.size); have hd3 := hd2.trans (hc3.mono hd2.size); clear hc3; obtain ⟨hx3, hy3⟩ := HS2.out _ hd3; obtain ⟨_, _, _, _, _, _, _, x7, _⟩ := hx3.get_9; obtain ⟨_, _, _, _, _, _, _, y7, _⟩ := hy3.get_9; clear hx3 hy3)
              | (go_at_call_of 55 (Value.slice A4 xc.length n4); refine (HC.out _ hb3).mono ?_; rintro r w4 ⟨rfl, hc4⟩; have hb4 := hb3.trans (hc4.mono hb3.size); clear hc4))
          all_goals have hsk2 := HSK.out
          all_goals first
            | (go_roundw
               case rel => exact ⟨k + 1, by go_num, by omega, by rw [← hsk2]; clear hsk2; cases q7 <;> simp_all, HB.out.trans (hb4.mono HB.out.size)⟩
               case measure => simp [intOf]; omega)
            | (go_ret
               first
                 | exact ⟨ret_bool (by rw [← hsk2]; clear hsk2; first | (simp [*]; done) | (cases q7 <;> simp_all)), HB.out.trans (hb4.mono HB.out.size)⟩
                 | exact ⟨ret_bool (by rw [← hsk2]; clear hsk2; first | (simp [*]; done) | (cases q7 <;> simp_all)), HB.out.trans (hb3.mono HB.out.size)⟩
                 | exact ⟨ret_bool (by rw [← hsk2]; clear hsk2; first | (simp [*]; done) | (cases q7 <;> simp_all)), HB.out.trans (hb2.mono HB.out.size)⟩
                 | exact ⟨ret_bool (by rw [← hsk2]; clear hsk2; first | (simp [*]; done) | (cases q7 <;> simp_all)), HB.out.trans (hb1.mono HB.out.size)⟩
                 | exact ⟨ret_bool (by rw [← hsk2]; clear hsk2; first | (simp [*]; done) | (cases q7 <;> simp_all)), HB.out.trans (hbw.mono HB.out.size)⟩)
        · rw [List.drop_eq_nil_of_le (by rw [HLN.out]; omega), List.drop_eq_nil_of_le (by rw [HLN'.out]; omega), sameL_nil] at hsk
          clear ih
          go_wp2
          go_ret
          exact ⟨ret_bool hsk, hB⟩
    · have hf : q = false := by rw [← hq]; exact sameL_ne _ _ hne
      have hne2 : ((l.length : Int) != (l'.length : Int)) = true := by simp; omega
      clear hr hk hr' hk' hl hq ih
      go_enter Try.func55, Try.ntmps55
      go_wp2
      go_ret
      exact ⟨ret_bool hf.symm, Below.refl _ _⟩
end Go.Proofs.Ytlpddmncgmhkeaa
