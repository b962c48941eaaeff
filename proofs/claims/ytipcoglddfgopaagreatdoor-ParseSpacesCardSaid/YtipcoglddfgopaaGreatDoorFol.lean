/- Parts of the proof: Fol. -/
import Derived.Test.YtipcoglddfgopaaGreatDoorP24
import Derived.Deep.RegionWith
set_option maxHeartbeats 8000000
set_option maxRecDepth 100000
set_option linter.unusedSimpArgs false
set_option linter.unusedVariables false
namespace Go.Proofs.YtipcoglddfgopaaGreatDoor
open Go.RowKit
def FolAt (W0 w : World) (c b2 : Nat) (s : RS) (x : Nd) (k m : Int) (tx nm ty : ByteArray) (A : Option Addr) (cap : Nat) (l : List Nd) (w' : World) : Prop :=
 Mv W0 c s w w' ∧ Bx w' b2 #[.int .i64 k, .int .i32 m, .string tx, .string nm, .string ty, .slice A l.length cap, .string ⟨#[]⟩, .int .i64 0] 42 ∧ Bx w' w.heap.size #[.int .i64 0, .int .i32 0, .string ⟨#[]⟩, .string ⟨#[]⟩, .string ⟨#[]⟩, .slice none 0 0, .string ⟨#[]⟩, .int .i64 0] 42 ∧ ExK (w.heap.size + 1) (some b2) w' x (.ex k m tx nm ty (.slice A l.length cap) l ⟨#[]⟩ 0) ∧ w.heap.size < b2 ∧ c < w.heap.size ∧ W0.heap.size ≤ w.heap.size
section
variable {W0 w w' w'' : World} {c b2 : Nat} {s s2 : RS} {x : Nd} {k m : Int} {tx nm ty : ByteArray} {A : Option Addr} {cap : Nat} {l : List Nd}
theorem FolAt.below (h : FolAt W0 w c b2 s x k m tx nm ty A cap l w') (hb : Below w'.heap.size w' w'') : FolAt W0 w c b2 s x k m tx nm ty A cap l w'' :=
 ⟨h.1.trans (Mv.below hb h.1.2), h.2.1.next hb, h.2.2.1.next hb, h.2.2.2.1.below hb, h.2.2.2.2⟩
theorem FolAt.move (h : FolAt W0 w c b2 s x k m tx nm ty A cap l w') (hm : Mv W0 c s2 w' w'') : FolAt W0 w c b2 s2 x k m tx nm ty A cap l w'' :=
 have h1 := h.2.2.2.2.1
 have h2 := h.2.2.2.2.2
 ⟨h.1.trans hm, h.2.1.grown hm.1 (by omega), h.2.2.1.grown hm.1 (by omega), h.2.2.2.1.grown hm.1 (.inl (by omega)), h.2.2.2.2⟩
theorem ExK.bare {B : Nat} {r : Option Nat} {x y : Nd} (h : ExK B r w x y) : bareN y = bareN x := by obtain ⟨_, _, _, _, _, _, _, _, _, _, _, hb⟩ := h; exact hb
theorem FolAt.one (h : FolAt W0 w c b2 s x k m tx nm ty A cap l w') : OwnR (w.heap.size + 1) (some b2) (w'.alloc (.cells #[.int .i64 k, .int .i32 m, .string tx, .string nm, .string ty, .slice A l.length cap, .string ⟨#[]⟩, .int .i64 0] 42)) (.slice (some ⟨w'.heap.size, 0, none⟩) 1 1) [.ex k m tx nm ty (.slice A l.length cap) l ⟨#[]⟩ 0] := by
 have := OwnR.one h.2.2.2.1 (by have := h.2.1.lt; have := h.2.2.2.2.1; omega)
 simpa only [cellsN] using this
theorem FolAt.put {x' : Nd} {k' m' : Int} {tx' nm' ty' : ByteArray} {A' : Option Addr} {cap' : Nat} {l' : List Nd} (h : FolAt W0 w c b2 s x' k' m' tx' nm' ty' A' cap' l' w') (hk : ExK (w.heap.size + 1) (some b2) w' x (.ex k m tx nm ty (.slice A l.length cap) l ⟨#[]⟩ 0)) :
   FolAt W0 w c b2 s x k m tx nm ty A cap l ((((((((w'.setCell ⟨b2, 0, none⟩ (.int .i64 k)).setCell ⟨b2, 1, none⟩ (.int .i32 m)).setCell ⟨b2, 2, none⟩ (.string tx)).setCell ⟨b2, 3, none⟩ (.string nm)).setCell ⟨b2, 4, none⟩ (.string ty)).setCell ⟨b2, 5, none⟩ (.slice A l.length cap)).setCell ⟨b2, 6, none⟩ (.string ⟨#[]⟩)).setCell ⟨b2, 7, none⟩ (.int .i64 0)) := by
 have hg := grown_8 w' b2 (.int .i64 k) (.int .i32 m) (.string tx) (.string nm) (.string ty) (.slice A l.length cap) (.string ⟨#[]⟩) (.int .i64 0)
 have h1 := h.2.2.2.2.1
 have h3 := h.2.2.2.2.2.2
 exact ⟨Mv.over (Below.refl _ _) h.1 hg (by omega) h.2.2.2.2.2.1, h.2.1.to_8 (.int .i64 k) (.int .i32 m) (.string tx) (.string nm) (.string ty) (.slice A l.length cap) (.string ⟨#[]⟩) (.int .i64 0), h.2.2.1.grown hg (by omega), hk.grown hg (.inr rfl), h.2.2.2.2⟩
end
theorem followed_of (n : Nat) (IHA : SpecA n) (IHU : ∀ m, m ≤ n → SpecU m) : SpecF (n + 1) := by
 intro W0 w c s hv h hn
 obtain ⟨r, hr⟩ : ∃ r, run n .atom s = r := ⟨_, rfl⟩
 obtain ⟨RR, hRR⟩ : ∃ RR, run n (.loopF (hdE r.1)) r.2 = RR := ⟨_, rfl⟩
 have hR : run (n + 1) .followed s = RR := by simp only [run, hr, hRR]
 have hen : enough n .atom s := by simp only [enough, Md.rank] at hn ⊢; omega
 have hl1 : r.2.len ≤ s.len := by have := run_len n .atom s; rw [hr] at this; exact this
 have hen2 : enough n (.loopF (hdE r.1)) r.2 := by simp only [enough, Md.rank] at hn ⊢; omega
 have hlt := h.lt
 have hle0 := h.le
 obtain ⟨W1, hW1⟩ : ∃ W1, w.alloc (.cells #[.int .i64 0, .int .i32 0, .string ⟨#[]⟩, .string ⟨#[]⟩, .string ⟨#[]⟩, .slice none 0 0, .string ⟨#[]⟩, .int .i64 0] 42) = W1 := ⟨_, rfl⟩
 have hb : Below w.heap.size w W1 := by rw [← hW1]; exact (Below.refl _ w).alloc (Nat.le_refl _) _
 have hx : Bx W1 w.heap.size #[.int .i64 0, .int .i32 0, .string ⟨#[]⟩, .string ⟨#[]⟩, .string ⟨#[]⟩, .slice none 0 0, .string ⟨#[]⟩, .int .i64 0] 42 := by rw [← hW1]; exact Bx.new _ _ _
 have hz : W1.heap.size = w.heap.size + 1 := by rw [← hW1]; simp
 have HM0 := Lib.hid (Mv.below hb h)
 have HX0 := Lib.hid hx
 clear hb hx
 have HX := Lib.hid (IHA W0 W1 c s hv HM0.out.2 hen)
 rw [hr] at HX
 rw [hR]
 have HRR := Lib.hid hRR
 have HEN := Lib.hid hen2
 have HIH := Lib.hid IHU
 clear hR hRR hr hen hen2 hn h IHA IHU hl1
 go_enter Tryz.func79, Tryz.ntmps79
 go_wp2_with fail
 refine HX.out.mono ?_
 clear HX hW1
 rintro e w2 ⟨y, rfl, hk, hm⟩
 have hs2 := hm.1.size
 have HK := Lib.hid hk
 obtain ⟨k, m, tx, nm, ty, A, cap, l, rfl, _, _, _⟩ := hk
 have HF := Lib.hid (show FolAt W0 w c w2.heap.size r.2 (hdE r.1) k m tx nm ty A cap l (w2.alloc (.cells #[.int .i64 k, .int .i32 m, .string tx, .string nm, .string ty, .slice A l.length cap, .string ⟨#[]⟩, .int .i64 0] 42)) from
   ⟨(HM0.out.trans hm).trans (Mv.below ((Below.refl _ _).alloc (Nat.le_refl _) _) hm.2), Bx.new _ _ _, (Bx.grown HX0.out hm.1 (by omega)).next ((Below.refl _ _).alloc (Nat.le_refl _) _), (ExK.excl HK.out ((Below.refl _ _).alloc (Nat.le_refl _) _) (Nat.le_refl _)).mono (by omega), by omega, hlt, hle0⟩)
 clear hm HK HM0 HX0
 simp only [cellsN]
 go_wp2_with fail
 go_loopw [7] (fun v7 wr => ∃ (m : Nat) (x : Nd) (s' : RS) (k n' : Int) (tx nm ty : ByteArray) (A : Option Addr) (cap : Nat) (l : List Nd), m ≤ n ∧ run m (.loopF x) s' = RR ∧ enough m (.loopF x) s' ∧ FolAt W0 w c w2.heap.size s' x k n' tx nm ty A cap l wr) (fun v7 wr => lenAt wr c)
 case atStart => exact ⟨n, _, _, k, m, tx, nm, ty, A, cap, l, Nat.le_refl _, HRR.out, HEN.out, HF.out⟩
 case round =>
   obtain ⟨m, x, s', k, n', tx, nm, ty, A, cap, l, hmn, hrun, hen, hf⟩ := hrel
   obtain ⟨m, rfl⟩ : ∃ m', m = m' + 1 := ⟨m - 1, by simp only [enough, Md.rank] at hen; omega⟩
   have hla := lenAt_of hf.1.2
   have HF1 := Lib.hid hf
   have hb2 := hf.2.2.2.2.1
   have hlt2 : w2.heap.size < wr.heap.size := hf.2.1.lt
   cases h0 : s'.sees 0 sDot with
   | true =>
     have T0 := Lib.hid (take_true W0 wr c s' sDot hf.1.2 h0)
     obtain ⟨q, hq⟩ : ∃ q, run m (.used 7 10 E0 [x]) s'.skip = q := ⟨_, rfl⟩
     have hR : run (m + 1) (.loopF x) s' = run m (.loopF (hdE q.1)) q.2 := by simp only [run, h0, hq]; simp
     rw [hR] at hrun
     have h1 := sees_len h0
     have h2 := len_skip s'
     have h3 : q.2.len ≤ s'.skip.len := by have := run_len m (.used 7 10 E0 [x]) s'.skip; rw [hq] at this; exact this
     have hE : enough m (.used 7 10 E0 [x]) s'.skip := by simp only [enough, Md.rank] at hen ⊢; omega
     have hen2 : enough m (.loopF (hdE q.1)) q.2 := by simp only [enough, Md.rank] at hen ⊢; omega
     have HRUN := Lib.hid hrun
     have HEN2 := Lib.hid hen2
     have HU : Hid (∀ w', FolAt W0 w c w2.heap.size s'.skip x k n' tx nm ty A cap l w' → Calls Tryz.prog 110 #[.pointer (some ⟨c, 0, none⟩), .agg #[.int .i64 0, .int .i32 0, .string ⟨#[]⟩, .string ⟨#[]⟩, .string ⟨#[]⟩, .slice (some ⟨w'.heap.size, 0, none⟩) 1 1, .string ⟨#[]⟩, .int .i64 0], .int .i64 7, .int .i64 10] (w'.alloc (.cells #[.int .i64 k, .int .i32 n', .string tx, .string nm, .string ty, .slice A l.length cap, .string ⟨#[]⟩, .int .i64 0] 42)) (UsC W0 (w.heap.size + 1) (some w2.heap.size) c (w'.alloc (.cells #[.int .i64 k, .int .i32 n', .string tx, .string nm, .string ty, .slice A l.length cap, .string ⟨#[]⟩, .int .i64 0] 42)) q)) := by
       show ∀ w', _
       intro w' h'
       have hbw : Below w'.heap.size w' (w'.alloc (.cells #[.int .i64 k, .int .i32 n', .string tx, .string nm, .string ty, .slice A l.length cap, .string ⟨#[]⟩, .int .i64 0] 42)) := (Below.refl _ _).alloc (Nat.le_refl _) _
       have h'' := h'.below hbw
       have hll : w2.heap.size < w'.heap.size := h'.2.1.lt
       have hss := hbw.size
       have := HIH.out m (by omega) W0 _ (w.heap.size + 1) (some w2.heap.size) c s'.skip 7 10 E0 _ [x] _ hv h''.1.2 hE h'.one (bare_one (by obtain ⟨_, _, _, _, _, _, _, _, _, _, _, hb⟩ := h'.2.2.2.1; exact hb)) (by omega) (by omega) ⟨_, rfl⟩ (Nat.le_refl _) (Nat.zero_le _) (by
         intro g hg
         injection hg with hg
         subst hg
         exact ⟨by omega, by simp [Value.ownBlock]; omega⟩)
       rw [hq] at this
       exact this
     clear hR hrun hen hE hen2 hq hf h0
     go_wp2_with fail
     refine T0.out.mono ?_
     clear T0
     rintro e w3 ⟨rfl, hm⟩
     have HF2 := Lib.hid (HF1.out.move hm)
     obtain ⟨a0, a1, a2, a3, a4, a5, a6, a7⟩ := HF2.out.2.1.all_8
     clear hm
     go_wp2_with fail
     refine (HU.out _ HF2.out).mono ?_
     clear HU a0 a1 a2 a3 a4 a5 a6 a7
     rintro e w5 ⟨y, rfl, hk, hm⟩
     have HF3 := Lib.hid ((HF2.out.below ((Below.refl _ _).alloc (Nat.le_refl _) _)).move hm)
     have HK := Lib.hid hk
     obtain ⟨k3, m3, tx3, nm3, ty3, A3, cap3, l3, rfl, _, _, _⟩ := hk
     have HF4 := Lib.hid (HF3.out.put HK.out)
     obtain ⟨r0, r1, r2, r3, r4, r5, r6, r7⟩ := HF3.out.2.1.all_8
     have g0 := HF3.out.2.1.fro 0; have g1 := HF3.out.2.1.fro 1; have g2 := HF3.out.2.1.fro 2; have g3 := HF3.out.2.1.fro 3; have g4 := HF3.out.2.1.fro 4; have g5 := HF3.out.2.1.fro 5; have g6 := HF3.out.2.1.fro 6; have g7 := HF3.out.2.1.fro 7
     clear hm
     simp only [cellsN]
     go_wp2_with fail
     go_roundw
     case rel => exact ⟨m, _, _, _, _, _, _, _, _, _, _, by omega, HRUN.out, HEN2.out, HF4.out⟩
     case measure => rw [hla, lenAt_of HF4.out.1.2]; omega
   | false =>
     cases h1 : s'.sees 0 sAs with
     | true =>
       have T0 := Lib.hid (take_false W0 wr c s' sDot hf.1.2 h0)
       have T1 := Lib.hid (take_true W0 wr c s' sAs hf.1.2 h1)
       have hR : run (m + 1) (.loopF x) s' = run m (.loopF (mkE 15 0 E0 E0 s'.skip.classV [x])) s'.skip.class := by simp only [run, h0, h1]; simp
       rw [hR] at hrun
       have h7 := sees_len h1
       have h8 := len_skip s'
       have h9 := len_class s'.skip
       have hcl := class_len s'.skip
       have hen2 : enough m (.loopF (mkE 15 0 E0 E0 s'.skip.classV [x])) s'.skip.class := by simp only [enough, Md.rank] at hen ⊢; omega
       obtain ⟨cl, hcle⟩ : ∃ cl, s'.skip.classV = cl := ⟨_, rfl⟩
       have HC : Hid (∀ w', FolAt W0 w c w2.heap.size s'.skip x k n' tx nm ty A cap l w' → Calls Tryz.prog 37 #[.pointer (some ⟨c, 0, none⟩)] w' fun e w'' => e = .returned (.string cl) ∧ Mv W0 c s'.skip.class w' w'' ∧ FolAt W0 w c w2.heap.size s'.skip.class x k n' tx nm ty A cap l w'') := by
         show ∀ w', _
         intro w' h'
         refine (classR_any W0 w' c _ h'.1.2).mono ?_
         rintro e w'' ⟨rfl, hm⟩
         exact ⟨by rw [hcle], hm, h'.move hm⟩
       rw [hcle] at hcl hrun hen2
       have HRUN := Lib.hid hrun
       have HEN2 := Lib.hid hen2
       clear hR hrun hen hen2 hf hcle h0 h1
       go_wp2_with fail
       refine T0.out.mono ?_
       clear T0
       rintro e w0 ⟨rfl, rfl⟩
       go_wp2_with fail
       refine T1.out.mono ?_
       clear T1
       rintro e w3 ⟨rfl, hm⟩
       have HF2 := Lib.hid (HF1.out.move hm)
       have HFD : Hid (FolAt W0 w c w2.heap.size s'.skip x k n' tx nm ty A cap l w3.drew) := Lib.hid (HF2.out.below (Below.refl _ _).drew)
       have HFA := Lib.hid (HFD.out.below ((Below.refl _ _).alloc (Nat.le_refl _) (.cells #[.int .i64 k, .int .i32 n', .string tx, .string nm, .string ty, .slice A l.length cap, .string ⟨#[]⟩, .int .i64 0] 42)))
       have HOA := Lib.hid HFD.out.one
       obtain ⟨a0, a1, a2, a3, a4, a5, a6, a7⟩ := HF2.out.2.1.all_8
       have hlt3 : w2.heap.size < w3.drew.heap.size := HFD.out.2.1.lt
       clear hm
       go_wp2_with fail
       go_region_with (go_at_call 37; refine (HC.out _ (by first | exact HFD.out | exact HFA.out)).mono ?_; rintro e w4 ⟨rfl, hm, hf4⟩; have HMC := Lib.hid hm; have HF4 := Lib.hid hf4; obtain ⟨W5, hW5⟩ : ∃ W5, w4.alloc (.cells #[.int .i64 k, .int .i32 n', .string tx, .string nm, .string ty, .slice A l.length cap, .string ⟨#[]⟩, .int .i64 0] 42) = W5 := ⟨_, rfl⟩; have hb5 : Below w4.heap.size w4 W5 := by { rw [← hW5]; exact (Below.refl _ _).alloc (Nat.le_refl _) _ }; have HF5 := Lib.hid (hf4.below hb5); have HO5 := Lib.hid hf4.one; rw [hW5] at HO5; obtain ⟨b0, b1, b3, b4, b5, b6, b7, b8⟩ := hf4.2.1.all_8; obtain ⟨r0, r1, r2, r3, r4, r5, r6, r7⟩ := HF5.out.2.1.all_8; have d0 := hf4.2.1.fro 0; have d1 := hf4.2.1.fro 1; have d2 := hf4.2.1.fro 2; have d3 := hf4.2.1.fro 3; have d4 := hf4.2.1.fro 4; have d5 := hf4.2.1.fro 5; have d6 := hf4.2.1.fro 6; have d7 := hf4.2.1.fro 7; have g0 := HF5.out.2.1.fro 0; have g1 := HF5.out.2.1.fro 1; have g2 := HF5.out.2.1.fro 2; have g3 := HF5.out.2.1.fro 3; have g4 := HF5.out.2.1.fro 4; have g5 := HF5.out.2.1.fro 5; have g6 := HF5.out.2.1.fro 6; have g7 := HF5.out.2.1.fro 7; have hlt4 := hf4.2.1.lt; clear hm hf4 hb5)
       all_goals
         have HK6 : Hid (bareN (mkE 15 0 E0 E0 cl [x]) = .ex 15 0 ⟨#[]⟩ ⟨#[]⟩ cl (.slice none 0 0) (bareL [Nd.ex k n' tx nm ty (.slice A l.length cap) l ⟨#[]⟩ 0]) ⟨#[]⟩ 0) := Lib.hid (mk_bare (bare_one HF2.out.2.2.2.1.bare) _ _ _ _ _)
         have hnA : ∀ g, some w2.heap.size = some g → (Value.slice (some ⟨w3.drew.heap.size, 0, none⟩) 1 1).ownBlock ≠ some g := by intro g hg; injection hg with hg; subst hg; simp only [Value.ownBlock, ne_eq, Option.some.injEq]; omega
         have hn4 : ∀ g, some w2.heap.size = some g → (Value.slice (some ⟨w4.heap.size, 0, none⟩) 1 1).ownBlock ≠ some g := by intro g hg; injection hg with hg; subst hg; simp only [Value.ownBlock, ne_eq, Option.some.injEq]; omega
         have hcc : c < w.heap.size + 1 := by omega
         have hszz : (⟨#[]⟩ : ByteArray).size ≤ maxLen ∧ (⟨#[]⟩ : ByteArray).size ≤ maxLen ∧ cl.size ≤ maxLen := ⟨Nat.zero_le _, Nat.zero_le _, hcl⟩
         have hmn' : m ≤ n := by omega
         clear a0 a1 a2 a3 a4 a5 a6 a7
         go_wp2_with fail
         first
           | (have hk6 := (HOA.out.grown HMC.out.1 hcc).node hnA 15 0 ⟨#[]⟩ ⟨#[]⟩ cl hszz HK6.out
              have HF6 := Lib.hid (HF4.out.put (l := [_]) hk6)
              go_roundw
              case rel => exact ⟨m, _, _, _, _, _, _, _, _, _, _, hmn', HRUN.out, HEN2.out, HF6.out⟩
              case measure => (refine Nat.lt_of_le_of_lt (Nat.le_of_eq (lenAt_of HF6.out.1.2)) ?_; rw [hla]; omega))
           | (have hk6 := HO5.out.node hn4 15 0 ⟨#[]⟩ ⟨#[]⟩ cl hszz HK6.out
              have HF6 := Lib.hid (HF5.out.put (l := [_]) hk6)
              go_roundw
              case rel => exact ⟨m, _, _, _, _, _, _, _, _, _, _, hmn', HRUN.out, HEN2.out, HF6.out⟩
              case measure => (refine Nat.lt_of_le_of_lt (Nat.le_of_eq (lenAt_of HF6.out.1.2)) ?_; rw [hla]; omega))
     | false =>
       cases h2 : s'.sees 0 sIs with
       | true =>
         have T0 := Lib.hid (take_false W0 wr c s' sDot hf.1.2 h0)
         have T1 := Lib.hid (take_false W0 wr c s' sAs hf.1.2 h1)
         have T2 := Lib.hid (take_true W0 wr c s' sIs hf.1.2 h2)
         have hR : run (m + 1) (.loopF x) s' = run m (.loopF (mkE 16 0 E0 E0 s'.skip.classV [x])) s'.skip.class := by simp only [run, h0, h1, h2]; simp
         rw [hR] at hrun
         have h7 := sees_len h2
         have h8 := len_skip s'
         have h9 := len_class s'.skip
         have hcl := class_len s'.skip
         have hen2 : enough m (.loopF (mkE 16 0 E0 E0 s'.skip.classV [x])) s'.skip.class := by simp only [enough, Md.rank] at hen ⊢; omega
         obtain ⟨cl, hcle⟩ : ∃ cl, s'.skip.classV = cl := ⟨_, rfl⟩
         have HC : Hid (∀ w', FolAt W0 w c w2.heap.size s'.skip x k n' tx nm ty A cap l w' → Calls Tryz.prog 37 #[.pointer (some ⟨c, 0, none⟩)] w' fun e w'' => e = .returned (.string cl) ∧ Mv W0 c s'.skip.class w' w'' ∧ FolAt W0 w c w2.heap.size s'.skip.class x k n' tx nm ty A cap l w'') := by
           show ∀ w', _
           intro w' h'
           refine (classR_any W0 w' c _ h'.1.2).mono ?_
           rintro e w'' ⟨rfl, hm⟩
           exact ⟨by rw [hcle], hm, h'.move hm⟩
         rw [hcle] at hcl hrun hen2
         have HRUN := Lib.hid hrun
         have HEN2 := Lib.hid hen2
         clear hR hrun hen hen2 hf hcle h0 h1 h2
         go_wp2_with fail
         refine T0.out.mono ?_
         clear T0
         rintro e w0 ⟨rfl, rfl⟩
         go_wp2_with fail
         refine T1.out.mono ?_
         clear T1
         rintro e w0 ⟨rfl, rfl⟩
         go_wp2_with fail
         refine T2.out.mono ?_
         clear T2
         rintro e w3 ⟨rfl, hm⟩
         have HF2 := Lib.hid (HF1.out.move hm)
         have HFD : Hid (FolAt W0 w c w2.heap.size s'.skip x k n' tx nm ty A cap l w3.drew) := Lib.hid (HF2.out.below (Below.refl _ _).drew)
         have HFA := Lib.hid (HFD.out.below ((Below.refl _ _).alloc (Nat.le_refl _) (.cells #[.int .i64 k, .int .i32 n', .string tx, .string nm, .string ty, .slice A l.length cap, .string ⟨#[]⟩, .int .i64 0] 42)))
         have HOA := Lib.hid HFD.out.one
         obtain ⟨a0, a1, a2, a3, a4, a5, a6, a7⟩ := HF2.out.2.1.all_8
         have hlt3 : w2.heap.size < w3.drew.heap.size := HFD.out.2.1.lt
         clear hm
         go_wp2_with fail
         go_region_with (go_at_call 37; refine (HC.out _ (by first | exact HFD.out | exact HFA.out)).mono ?_; rintro e w4 ⟨rfl, hm, hf4⟩; have HMC := Lib.hid hm; have HF4 := Lib.hid hf4; obtain ⟨W5, hW5⟩ : ∃ W5, w4.alloc (.cells #[.int .i64 k, .int .i32 n', .string tx, .string nm, .string ty, .slice A l.length cap, .string ⟨#[]⟩, .int .i64 0] 42) = W5 := ⟨_, rfl⟩; have hb5 : Below w4.heap.size w4 W5 := by { rw [← hW5]; exact (Below.refl _ _).alloc (Nat.le_refl _) _ }; have HF5 := Lib.hid (hf4.below hb5); have HO5 := Lib.hid hf4.one; rw [hW5] at HO5; obtain ⟨b0, b1, b3, b4, b5, b6, b7, b8⟩ := hf4.2.1.all_8; obtain ⟨r0, r1, r2, r3, r4, r5, r6, r7⟩ := HF5.out.2.1.all_8; have d0 := hf4.2.1.fro 0; have d1 := hf4.2.1.fro 1; have d2 := hf4.2.1.fro 2; have d3 := hf4.2.1.fro 3; have d4 := hf4.2.1.fro 4; have d5 := hf4.2.1.fro 5; have d6 := hf4.2.1.fro 6; have d7 := hf4.2.1.fro 7; have g0 := HF5.out.2.1.fro 0; have g1 := HF5.out.2.1.fro 1; have g2 := HF5.out.2.1.fro 2; have g3 := HF5.out.2.1.fro 3; have g4 := HF5.out.2.1.fro 4; have g5 := HF5.out.2.1.fro 5; have g6 := HF5.out.2.1.fro 6; have g7 := HF5.out.2.1.fro 7; have hlt4 := hf4.2.1.lt; clear hm hf4 hb5)
         all_goals
           have HK6 : Hid (bareN (mkE 16 0 E0 E0 cl [x]) = .ex 16 0 ⟨#[]⟩ ⟨#[]⟩ cl (.slice none 0 0) (bareL [Nd.ex k n' tx nm ty (.slice A l.length cap) l ⟨#[]⟩ 0]) ⟨#[]⟩ 0) := Lib.hid (mk_bare (bare_one HF2.out.2.2.2.1.bare) _ _ _ _ _)
           have hnA : ∀ g, some w2.heap.size = some g → (Value.slice (some ⟨w3.drew.heap.size, 0, none⟩) 1 1).ownBlock ≠ some g := by intro g hg; injection hg with hg; subst hg; simp only [Value.ownBlock, ne_eq, Option.some.injEq]; omega
           have hn4 : ∀ g, some w2.heap.size = some g → (Value.slice (some ⟨w4.heap.size, 0, none⟩) 1 1).ownBlock ≠ some g := by intro g hg; injection hg with hg; subst hg; simp only [Value.ownBlock, ne_eq, Option.some.injEq]; omega
           have hcc : c < w.heap.size + 1 := by omega
           have hszz : (⟨#[]⟩ : ByteArray).size ≤ maxLen ∧ (⟨#[]⟩ : ByteArray).size ≤ maxLen ∧ cl.size ≤ maxLen := ⟨Nat.zero_le _, Nat.zero_le _, hcl⟩
           have hmn' : m ≤ n := by omega
           clear a0 a1 a2 a3 a4 a5 a6 a7
           go_wp2_with fail
           first
             | (have hk6 := (HOA.out.grown HMC.out.1 hcc).node hnA 16 0 ⟨#[]⟩ ⟨#[]⟩ cl hszz HK6.out
                have HF6 := Lib.hid (HF4.out.put (l := [_]) hk6)
                go_roundw
                case rel => exact ⟨m, _, _, _, _, _, _, _, _, _, _, hmn', HRUN.out, HEN2.out, HF6.out⟩
                case measure => (refine Nat.lt_of_le_of_lt (Nat.le_of_eq (lenAt_of HF6.out.1.2)) ?_; rw [hla]; omega))
             | (have hk6 := HO5.out.node hn4 16 0 ⟨#[]⟩ ⟨#[]⟩ cl hszz HK6.out
                have HF6 := Lib.hid (HF5.out.put (l := [_]) hk6)
                go_roundw
                case rel => exact ⟨m, _, _, _, _, _, _, _, _, _, _, hmn', HRUN.out, HEN2.out, HF6.out⟩
                case measure => (refine Nat.lt_of_le_of_lt (Nat.le_of_eq (lenAt_of HF6.out.1.2)) ?_; rw [hla]; omega))
       | false =>
         have T0 := Lib.hid (take_false W0 wr c s' sDot hf.1.2 h0)
         have T1 := Lib.hid (take_false W0 wr c s' sAs hf.1.2 h1)
         have T2 := Lib.hid (take_false W0 wr c s' sIs hf.1.2 h2)
         have hR : run (m + 1) (.loopF x) s' = ([x], s') := by simp only [run, h0, h1, h2]; simp
         rw [hR] at hrun
         subst hrun
         have HF3 := HF1
         clear hR hen hf h0 h1 h2
         go_wp2_with fail
         refine T0.out.mono ?_
         clear T0
         rintro e w0 ⟨rfl, rfl⟩
         go_wp2_with fail
         refine T1.out.mono ?_
         clear T1
         rintro e w0 ⟨rfl, rfl⟩
         go_wp2_with fail
         refine T2.out.mono ?_
         clear T2
         rintro e w0 ⟨rfl, rfl⟩
         have hx2 := HF3.out.2.2.1
         obtain ⟨r0, r1, r2, r3, r4, r5, r6, r7⟩ := hx2.all_8
         have g0 := hx2.fro 0; have g1 := hx2.fro 1; have g2 := hx2.fro 2; have g3 := hx2.fro 3; have g4 := hx2.fro 4; have g5 := hx2.fro 5; have g6 := hx2.fro 6; have g7 := hx2.fro 7
         obtain ⟨a0, a1, a2, a3, a4, a5, a6, a7⟩ := HF3.out.2.1.all_8
         have HG := Lib.hid (grown_8 wr w.heap.size (.int .i64 k) (.int .i32 n') (.string tx) (.string nm) (.string ty) (.slice A l.length cap) (.string ⟨#[]⟩) (.int .i64 0))
         clear hx2
         go_wp2_with fail
         obtain ⟨z0, z1, z2, z3, z4, z5, z6, z7⟩ := (HF3.out.2.2.1.to_8 (.int .i64 k) (.int .i32 n') (.string tx) (.string nm) (.string ty) (.slice A l.length cap) (.string ⟨#[]⟩) (.int .i64 0)).all_8
         (try simp only [Exit.inBlock, Exit.then])
         refine bodyPost_ret (v := .agg #[.int .i64 k, .int .i32 n', .string tx, .string nm, .string ty, .slice A l.length cap, .string ⟨#[]⟩, .int .i64 0]) (by simp [results, Tryz.results79, go_sem, z0, z1, z2, z3, z4, z5, z6, z7]) rfl ?_
         exact ⟨_, rfl, (HF3.out.2.2.2.1.free.grown HG.out (.inl (by omega))).mono (by omega), Mv.over (Below.refl _ _) HF3.out.1 HG.out (Nat.le_refl _) hlt⟩
end Go.Proofs.YtipcoglddfgopaaGreatDoor
