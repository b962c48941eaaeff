/- Parts of the proof: ClF, Join, ExZ, Rdr. -/
import Derived.Test.YtnbfajmdfkgebaaGreatDoorP35
import Derived.Deep.AppendLies
import Derived.Test.YtnbfajmdfkgebaaGreatDoorP31
import Derived.Test.YtnbfajmdfkgebaaGreatDoorP30
import Derived.Test.YtnbfajmdfkgebaaGreatDoorP9
import Derived.Test.YtnbfajmdfkgebaaGreatDoorP33
import Derived.Deep.RegionWith
import Derived.Test.YtnbfajmdfkgebaaGreatDoorP3
set_option maxHeartbeats 8000000
set_option maxRecDepth 100000
namespace Go.Proofs.YtnbfajmdfkgebaaGreatDoor
set_option linter.unusedSimpArgs false
set_option linter.unusedVariables false
section
open Go.RowKit
def PgC (W0 : World) (c : Nat) (w : World) (r : List Nd × RS) (e : Ending) (w' : World) : Prop := ∃ (A : Option Addr) (cap : Nat) (ys : List Nd), e = .returned (.agg #[.slice A ys.length cap]) ∧ FkL w.heap.size w' .cl (.slice A ys.length cap) ys ∧ bareL ys = bareL r.1 ∧ Mv W0 c r.2 w w'
structure PrgAt (W0 w : World) (c : Nat) (s : RS) (acc : List Nd) (wr : World) (A : Option Addr) (cap : Nat) (ys : List Nd) : Prop where
 mv : Mv W0 c s w wr
 bx : Bx wr (w.heap.size + 1) #[.slice A ys.length cap] 25
 rw' : OwnT .cl 44 (w.heap.size + 2) none wr (.slice A ys.length cap) ys
 bq : bareL ys = bareL acc
 hc : c < w.heap.size
 rb : Bx wr w.heap.size #[.slice none 0 0] 25
 hle : W0.heap.size ≤ w.heap.size
section
variable {W0 w wr w' : World} {c : Nat} {s s2 : RS} {acc : List Nd} {A : Option Addr} {cap : Nat} {ys : List Nd}
theorem PrgAt.below (h : PrgAt W0 w c s acc wr A cap ys) (hb : Below wr.heap.size wr w') : PrgAt W0 w c s acc w' A cap ys :=
 ⟨h.mv.trans (Mv.below hb h.mv.2), h.bx.next hb, h.rw'.below hb, h.bq, h.hc, h.rb.next hb, h.hle⟩
theorem PrgAt.move (h : PrgAt W0 w c s acc wr A cap ys) (hm : Mv W0 c s2 wr w') : PrgAt W0 w c s2 acc w' A cap ys :=
 have h2 := h.hc
 ⟨h.mv.trans hm, Bx.grown h.bx hm.1 (by omega), h.rw'.grown hm.1 (by omega), h.bq, h.hc, Bx.grown h.rb hm.1 (by omega), h.hle⟩
theorem PrgAt.box (h : PrgAt W0 w c s acc wr A cap ys) (hg : wr.grownBy w' (Value.slice A ys.length cap).ownBlock) : Bx w' (w.heap.size + 1) #[.slice A ys.length cap] 25 := by
 refine (hg.block _ h.bx.lt (fun e => ?_)).trans h.bx
 have := (h.rw'.lt _ e.symm).1
 omega
theorem PrgAt.put {x y : Nd} {A3 : Option Addr} {c3 n : Nat} (h : PrgAt W0 w c s acc wr A cap ys) (hy : bareN y = bareN x) (ro : OwnT .cl 44 (w.heap.size + 2) none w' (.slice A3 n c3) (ys ++ [y])) (hg : wr.grownBy w' (Value.slice A ys.length cap).ownBlock) (hn : n = (ys ++ [y]).length) :
   PrgAt W0 w c s (acc ++ [x]) (w'.setCell ⟨w.heap.size + 1, 0, none⟩ (.slice A3 n c3)) A3 c3 (ys ++ [y]) := by
 subst hn
 have h2 := h.hc
 have h3 := h.hle
 have hx := h.box hg
 have hgg := grown_1 w' (w.heap.size + 1) (.slice A3 (ys ++ [y]).length c3)
 have hmv := Mv.row h.mv hg (fun k hk => by have := (h.rw'.lt k hk).1; omega) (fun k hk => by have := (h.rw'.lt k hk).1; omega) h.hc
 have hrb : Bx w' w.heap.size #[.slice none 0 0] 25 := (hg.block _ h.rb.lt (fun e => by have := (h.rw'.lt _ e.symm).1; omega)).trans h.rb
 exact ⟨Mv.over (Below.refl _ _) hmv hgg (by omega) h.hc, hx.to_1 _, ro.grown hgg (by omega), by rw [bareL_append, bareL_append, h.bq]; simp only [bareL]; rw [hy], h.hc, Bx.grown hrb hgg (by omega), h.hle⟩
end
theorem prog_any (HE : ExAny) (HAR : ArAny) (W0 w : World) (c : Nat) (s : RS) (hv : Vars W0) (h : Rd W0 c s w) : Calls Tryz.prog 13 #[.pointer (some ⟨c, 0, none⟩)] w (PgC W0 c w (prg s)) := by
 obtain ⟨R, hR⟩ : ∃ R, prg s = R := ⟨_, rfl⟩
 have hlg : loopG (s.len + 1) [] s = R := hR
 rw [hR]
 have hlt := h.lt
 have hle0 := h.le
 obtain ⟨Wa, ha⟩ : ∃ W, w.alloc (.cells #[.slice none 0 0] 25) = W := ⟨_, rfl⟩
 have ka : Below w.heap.size w Wa := by rw [← ha]; exact (Below.refl _ _).alloc (Nat.le_refl _) _
 have xa : Bx Wa w.heap.size #[.slice none 0 0] 25 := by rw [← ha]; exact Bx.new _ _ _
 have sa : Wa.heap.size = w.heap.size + 1 := by rw [← ha]; simp
 obtain ⟨Wb, hb⟩ : ∃ W, Wa.alloc (.cells #[.slice none 0 0] 25) = W := ⟨_, rfl⟩
 have kb : Below Wa.heap.size Wa Wb := by rw [← hb]; exact (Below.refl _ _).alloc (Nat.le_refl _) _
 have xb : Bx Wb (w.heap.size + 1) #[.slice none 0 0] 25 := by rw [← hb, ← sa]; exact Bx.new _ _ _
 have HPA : Hid (PrgAt W0 w c s [] Wb none 0 []) := Lib.hid ⟨Mv.below (ka.trans (kb.mono ka.size)) h, xb, OwnT.nil, rfl, hlt, xa.next kb, hle0⟩
 have HX : Hid (∀ s' w', Rd W0 c s' w' → Calls Tryz.prog 35 #[.pointer (some ⟨c, 0, none⟩)] w' (CsC W0 c w' (clsC s'))) := by
   show ∀ s' w', _
   intro s' w' h'; exact class_all HE HAR W0 w' c s' hv h'
 have HLG := Lib.hid hlg
 have hfew := h.few
 obtain ⟨sl, hsl⟩ : ∃ sl, s.len = sl := ⟨_, rfl⟩
 rw [hsl] at HLG hfew
 have hsl' : s.len < sl + 1 := by omega
 obtain ⟨i0, hi, hz0, hzz1, hzz2⟩ := info_parts Tryz.infoCl
 clear xa xb ka kb sa hR hlg HE HAR hv
 subst ha hb
 go_enter Tryz.func13, Tryz.ntmps13
 go_wp2_with fail
 go_loopw [13] (fun v13 wr => ∃ (m : Nat) (acc : List Nd) (s' : RS) (A : Option Addr) (cap : Nat) (ys : List Nd), loopG m acc s' = R ∧ s'.len < m ∧ PrgAt W0 w c s' acc wr A cap ys ∧ ys.length + s'.len ≤ 1000001) (fun v13 wr => lenAt wr c)
 case atStart => exact ⟨sl + 1, [], s, none, 0, [], HLG.out, hsl', HPA.out, by simp; omega⟩
 case round =>
   obtain ⟨m, acc, s', A, cap, ys, hrun, hen, hp, hbd⟩ := hrel
   obtain ⟨m, rfl⟩ : ∃ m', m = m' + 1 := ⟨m - 1, by omega⟩
   have hla := lenAt_of hp.mv.2
   obtain ⟨Aw, cw, hw0, hwl⟩ := hp.mv.2.words
   have HPB := Lib.hid hp
   cases hws : s'.ws with
   | nil =>
     have hR : loopG (m + 1) acc s' = (acc, s') := by simp only [loopG, hws]; simp
     rw [hR] at hrun
     rw [hws] at hw0
     simp only [List.length_nil] at hw0
     subst hrun
     have r0 := hp.rb.all_1
     have g0 := hp.rb.fro 0
     have HG := Lib.hid (grown_1 wr w.heap.size (.slice A ys.length cap))
     have y0' := hp.bx.all_1
     clear hR hws hp hla hen hbd hwl
     go_wp2_with fail
     have z0 := (HPB.out.rb.to_1 (.slice A ys.length cap)).all_1
     (try simp only [Exit.inBlock, Exit.then])
     refine bodyPost_ret (v := .agg #[.slice A ys.length cap]) (by simp [results, Tryz.results13, go_sem, z0]) rfl ?_
     exact ⟨A, cap, ys, rfl, (HPB.out.rw'.fk.grown HG.out (by omega)).mono (by omega), HPB.out.bq, Mv.over (Below.refl _ _) HPB.out.mv HG.out (Nat.le_refl _) hlt⟩
   | cons x0 l0 =>
     obtain ⟨q, hq⟩ : ∃ q, clsC s' = q := ⟨_, rfl⟩
     have hR : loopG (m + 1) acc s' = loopG m (acc ++ [q.1]) q.2 := by simp only [loopG, hws, hq]; simp
     rw [hR] at hrun
     have h1 : s'.len = l0.length + 1 := by simp [RS.len, hws]
     have h3 : q.2.len ≤ s'.len - 1 := by rw [← hq]; exact len_clsC s'
     have HXQ := Lib.hid (HX.out s' wr.drew hp.mv.2.drew)
     rw [hq] at HXQ
     have HPD := Lib.hid (hp.below (Below.refl _ wr).drew)
     have HRUN := Lib.hid hrun
     have hpl : (0 : Int) < ((l0.length + 1 : Nat) : Int) := by omega
     have y0 := hp.bx.all_1
     have hsw : wr.drew.heap.size = wr.heap.size := rfl
     have hbl := hp.bx.lt
     rw [hws] at hw0
     simp only [List.length_cons] at hw0
     clear hR hrun hq hp hws hwl
     go_wp2_with fail
     go_region_law (first
       | (refine step_append_lies _ rfl (.tmp 11) (.tmp 14) 23 rfl (w.heap.size + 2) 44 i0 _ 4 80 Tryz.underlying23 hi hz0 hzz1 hzz2 rfl (by decide) _ _ _ rfl HO6.out.1 ⟨w5.heap.size, 0, none⟩ 1 1 _ rfl (by simp [cellsN]) (fun j u hj => HYR.out.1.cells (g := w5.heap.size) rfl j u hj) HYR.out.one' (by decide) (by unfold maxLen; first | omega | (simp; omega)) (by first | omega | (simp; omega)) HC6.out _ rfl ?_; intro g c3 w7 ho7 hg7 hat7 hlt7; have HO7 := Lib.hid (OwnT.app HO6.out HYR.out HB6.out HV6.out (by simp) ho7 hg7 (hat7.elim (fun e => .inl e.symm) (fun e => .inr (by rw [e]; rfl))) (by first | omega | (simp; omega))); have HPX := Lib.hid (HP6.out.box hg7); have d0 := HPX.out.all_1; have g0 := HPX.out.fro 0; have HPUT := Lib.hid (HP6.out.put (A3 := some ⟨g, 0, none⟩) (c3 := c3) HBQ.out HO7.out hg7 (by simp)); clear ho7 hg7 hat7 hlt7)
       | (go_simp; go_wp2_with (go_at_call 35; refine HXQ.out.mono ?_; rintro e w5 ⟨nm, sp, Af, Am, cf, cm, fs, gs, rfl, hk, hm⟩; have HP5 := Lib.hid (HPD.out.move hm); have HBQ := Lib.hid hk.2.2; have hb6 : Below w5.heap.size w5 (w5.alloc (.cells #[.string nm, .string sp, .slice Af fs.length cf, .slice Am gs.length cm] 44)) := (Below.refl _ _).alloc (Nat.le_refl _) _; have HP6 := Lib.hid (HP5.out.below hb6); have HO6 := Lib.hid HP6.out.rw'; have hsz5 := hm.1.size; have HYR := Lib.hid (OwnT.one (T := 44) hk (show wr.drew.heap.size ≤ w5.heap.size from hsz5)); have HB6 := Lib.hid (show w.heap.size + 2 ≤ wr.drew.heap.size from hbl); have HV6 := Lib.hid (fun k hk' => (HPD.out.rw'.lt k hk').2); have HC6 := Lib.hid (Nat.le_trans hbl (Nat.le_trans hsz5 hb6.size)); have b0 := HP5.out.bx.all_1; have b1 := HP6.out.bx.all_1; simp only [cellsN] at HYR; clear hk hm hb6)))
     all_goals
       go_wp2_with fail
       go_roundw
       case rel => exact ⟨m, _, q.2, _, _, _, HRUN.out, by omega, HPUT.out, by simp; omega⟩
       case measure => (refine Nat.lt_of_le_of_lt (Nat.le_of_eq (lenAt_of HPUT.out.mv.2)) ?_; rw [hla]; omega)
end
section
open Go.RowKit
theorem as_fx (l : List Pl) (k : Nat) : ∀ w, (Instr.typeAssert (aheadV l k) 79 107 true).run Tryz.prog w = .ok (.tuple #[.string ((fxP l[k]?).getD ⟨#[]⟩), .bool (fxP l[k]?).isSome]) w := by
 cases hx : l[k]? with
 | none => exact fun w => by simp only [aheadV, hx, fxP]; exact is_no_fx w
 | some x =>
   obtain ⟨q, a⟩ := x
   cases q with
   | fx t => exact fun w => by simp only [aheadV, hx, fxP, Pr.V]; exact is_fx_fx _ w
   | nm t => exact fun w => by simp only [aheadV, hx, fxP, Pr.V]; exact is_nm_fx _ w
   | cl t => exact fun w => by simp only [aheadV, hx, fxP, Pr.V]; exact is_cl_fx _ w
   | nu t => exact fun w => by simp only [aheadV, hx, fxP, Pr.V]; exact is_nu_fx _ w
   | qu t => exact fun w => by simp only [aheadV, hx, fxP, Pr.V]; exact is_qu_fx _ w
theorem tight_le (t : ByteArray) : 0 ≤ tight t ∧ tight t ≤ 6 := by
 unfold tight tightL
 repeat' split
 all_goals simp
theorem fx_get {l : List Pl} {t : ByteArray} (h : fxP l[0]? = some t) : ∃ a, l[0]? = some (.fx t, a) := by
 unfold fxP at h
 split at h
 · rename_i a e; injection h with h; exact ⟨a, by rw [e, h]⟩
 · cases h
theorem ExK.past {B C g : Nat} {w : World} {x y : Nd} (h : ExK B none w x y) (hg : g < B) (hC : C ≤ B) : ExK C (some g) w x y := by
 obtain ⟨k, n, tx, nm, ty, A, cap, l, e, hs, hf, hb⟩ := h
 exact ⟨k, n, tx, nm, ty, A, cap, l, e, hs, fun ws hk => hf ws fun k j u hB _ hu => hk k j u (Nat.le_trans hC hB) (by simp; omega) hu, hb⟩
theorem OwnR.two {B : Nat} {r : Option Nat} {W : World} {x y x' y' : Nd} (h : ExK B r W x y) (h' : ExK B r W x' y') (hB : B ≤ W.heap.size) : OwnR B r (W.alloc (.cells (cellsN y ++ cellsN y').toArray 36)) (.slice (some ⟨W.heap.size, 0, none⟩) 2 2) [y, y'] := by
 obtain ⟨hex, hk⟩ := h.kd
 obtain ⟨hex', hk'⟩ := h'.kd
 have hl := World.ownsRow_lit (base := B) (e := 36) (size := 8) W (cellsN y ++ cellsN y').toArray 2 hB (by unfold maxLen; omega) (by simp [cells_len, hex.tag, hex'.tag, Tg.sz])
 have key : ∀ ws : World, (∀ k j u, B ≤ k → some k ≠ (Value.slice (some ⟨W.heap.size, 0, none⟩) 2 2).ownBlock → some k ≠ r → (W.alloc (.cells (cellsN y ++ cellsN y').toArray 36)).cell? ⟨k, j, none⟩ = some u → ws.cell? ⟨k, j, none⟩ = some u) → ∀ k j u, B ≤ k → some k ≠ r → W.cell? ⟨k, j, none⟩ = some u → ws.cell? ⟨k, j, none⟩ = some u := by
   intro ws hs k j u hB' hr hu
   have hlt := World.block_lt_of_cell? W (a := ⟨k, j, none⟩) hu
   exact hs k j u hB' (by simp only [Value.ownBlock] at hlt ⊢; simp; omega) hr (Keep.below ((Below.refl _ W).alloc (Nat.le_refl _) _) _ _ hu)
 exact ⟨by simpa using hl, by simpa using ⟨hex, hex'⟩, fun ws hs => ⟨hk ws (key ws hs), hk' ws (key ws hs), trivial⟩, by simp⟩
theorem joined_of (n : Nat) (IHS : SpecS n) (IHJ : ∀ m, m ≤ n → SpecJ m) : SpecJ (n + 1) := by
 intro W0 w c s kk hv h hk1 hk7 hn
 obtain ⟨r, hr⟩ : ∃ r, run n .signed s = r := ⟨_, rfl⟩
 obtain ⟨RR, hRR⟩ : ∃ RR, run n (.loopJ kk (hdE r.1)) r.2 = RR := ⟨_, rfl⟩
 have hR : run (n + 1) (.joined kk) s = RR := by simp only [run, hr, hRR]
 have hen : enough n .signed s := by simp only [enough, Md.rank] at hn ⊢; omega
 have hl1 : r.2.len ≤ s.len := by have := run_len n .signed s; rw [hr] at this; exact this
 have hen2 : enough n (.loopJ kk (hdE r.1)) r.2 := by simp only [enough, Md.rank] at hn ⊢; omega
 have hlt := h.lt
 have hle0 := h.le
 obtain ⟨W1, hW1⟩ : ∃ W1, w.alloc (.cells #[.int .i64 0, .int .i32 0, .string ⟨#[]⟩, .string ⟨#[]⟩, .string ⟨#[]⟩, .slice none 0 0, .string ⟨#[]⟩, .int .i64 0] 36) = W1 := ⟨_, rfl⟩
 have hb : Below w.heap.size w W1 := by rw [← hW1]; exact (Below.refl _ w).alloc (Nat.le_refl _) _
 have hx : Bx W1 w.heap.size #[.int .i64 0, .int .i32 0, .string ⟨#[]⟩, .string ⟨#[]⟩, .string ⟨#[]⟩, .slice none 0 0, .string ⟨#[]⟩, .int .i64 0] 36 := by rw [← hW1]; exact Bx.new _ _ _
 have hz : W1.heap.size = w.heap.size + 1 := by rw [← hW1]; simp
 have HM0 := Lib.hid (Mv.below hb h)
 have HX0 := Lib.hid hx
 clear hb hx
 have HX := Lib.hid (IHS W0 W1 c s hv HM0.out.2 hen)
 rw [hr] at HX
 rw [hR]
 have HRR := Lib.hid hRR
 have HEN := Lib.hid hen2
 have HIH := Lib.hid IHJ
 have HV := Lib.hid hv
 clear hR hRR hr hen hen2 hn h IHS IHJ hl1 hv
 go_enter Tryz.func49, Tryz.ntmps49
 go_wp2_with fail
 refine HX.out.mono ?_
 clear HX hW1
 rintro e w2 ⟨y, rfl, hk, hm⟩
 have hs2 := hm.1.size
 have HK := Lib.hid hk
 obtain ⟨k, m, tx, nm, ty, A, cap, l, rfl, _, _, _⟩ := hk
 have HF := Lib.hid (show FolAt W0 w c w2.heap.size r.2 (hdE r.1) k m tx nm ty A cap l (w2.alloc (.cells #[.int .i64 k, .int .i32 m, .string tx, .string nm, .string ty, .slice A l.length cap, .string ⟨#[]⟩, .int .i64 0] 36)) from
   ⟨(HM0.out.trans hm).trans (Mv.below ((Below.refl _ _).alloc (Nat.le_refl _) _) hm.2), Bx.new _ _ _, (Bx.grown HX0.out hm.1 (by omega)).next ((Below.refl _ _).alloc (Nat.le_refl _) _), (ExK.excl HK.out ((Below.refl _ _).alloc (Nat.le_refl _) _) (Nat.le_refl _)).mono (by omega), by omega, hlt, hle0⟩)
 clear hm HK HM0 HX0
 simp only [cellsN]
 go_wp2_with fail
 go_loopw [8] (fun v8 wr => ∃ (m : Nat) (x : Nd) (s' : RS) (k n' : Int) (tx nm ty : ByteArray) (A : Option Addr) (cap : Nat) (l : List Nd), m ≤ n ∧ run m (.loopJ kk x) s' = RR ∧ enough m (.loopJ kk x) s' ∧ FolAt W0 w c w2.heap.size s' x k n' tx nm ty A cap l wr) (fun v8 wr => lenAt wr c)
 case atStart => exact ⟨n, _, _, k, m, tx, nm, ty, A, cap, l, Nat.le_refl _, HRR.out, HEN.out, HF.out⟩
 case round =>
   obtain ⟨m, x, s', k, n', tx, nm, ty, A, cap, l, hmn, hrun, hen, hf⟩ := hrel
   obtain ⟨m, rfl⟩ : ∃ m', m = m' + 1 := ⟨m - 1, by simp only [enough, Md.rank] at hen; omega⟩
   have hla := lenAt_of hf.1.2
   have HF1 := Lib.hid hf
   have hb2 := hf.2.2.2.2.1
   have hlt2 : w2.heap.size < wr.heap.size := hf.2.1.lt
   have hasf := as_fx s'.ws 0
   have HA := Lib.hid (ahead_any W0 wr c 0 s' hf.1.2 (by omega))
   obtain ⟨u0, hu0⟩ : ∃ u, aheadV s'.ws 0 = u := ⟨_, rfl⟩
   rw [hu0] at hasf HA
   clear hu0
   cases h0 : fxP s'.ws[0]? with
   | none =>
     rw [h0] at hasf
     simp only [Option.getD_none, Option.isSome_none] at hasf
     have hR : run (m + 1) (.loopJ kk x) s' = ([x], s') := by simp only [run, h0]
     rw [hR] at hrun
     subst hrun
     have HF3 := HF1
     have HT := Lib.hid (tight_any wr ⟨#[]⟩)
     have ht0 : tight ⟨#[]⟩ = 0 := by decide +kernel
     rw [ht0] at HT
     clear hR hen hf h0 ht0
     go_wp2_with fail
     refine HA.out.mono ?_
     clear HA
     rintro e w3 ⟨rfl, rfl⟩
     go_wp2_with fail
     refine HT.out.mono ?_
     clear HT
     rintro e w3 ⟨rfl, rfl⟩
     have hx2 := HF3.out.2.2.1
     obtain ⟨r0, r1, r2, r3, r4, r5, r6, r7⟩ := hx2.all_8
     have g0 := hx2.fro 0; have g1 := hx2.fro 1; have g2 := hx2.fro 2; have g3 := hx2.fro 3; have g4 := hx2.fro 4; have g5 := hx2.fro 5; have g6 := hx2.fro 6; have g7 := hx2.fro 7
     obtain ⟨a0, a1, a2, a3, a4, a5, a6, a7⟩ := HF3.out.2.1.all_8
     have HG := Lib.hid (grown_8 wr w.heap.size (.int .i64 k) (.int .i32 n') (.string tx) (.string nm) (.string ty) (.slice A l.length cap) (.string ⟨#[]⟩) (.int .i64 0))
     clear hx2
     go_wp2_with fail
     obtain ⟨z0, z1, z2, z3, z4, z5, z6, z7⟩ := (HF3.out.2.2.1.to_8 (.int .i64 k) (.int .i32 n') (.string tx) (.string nm) (.string ty) (.slice A l.length cap) (.string ⟨#[]⟩) (.int .i64 0)).all_8
     (try simp only [Exit.inBlock, Exit.then])
     refine bodyPost_ret (v := .agg #[.int .i64 k, .int .i32 n', .string tx, .string nm, .string ty, .slice A l.length cap, .string ⟨#[]⟩, .int .i64 0]) (by simp [results, Tryz.results49, go_sem, z0, z1, z2, z3, z4, z5, z6, z7]) rfl ?_
     exact ⟨_, rfl, (HF3.out.2.2.2.1.free.grown HG.out (.inl (by omega))).mono (by omega), Mv.over (Below.refl _ _) HF3.out.1 HG.out (Nat.le_refl _) hlt⟩
   | some t =>
     rw [h0] at hasf
     simp only [Option.getD_some, Option.isSome_some] at hasf
     obtain ⟨tt, htt⟩ : ∃ tt, tight t = tt := ⟨_, rfl⟩
     have htl := tight_le t
     have HT := Lib.hid (tight_any wr t)
     rw [htt] at htl HT
     obtain ⟨htl0, htl6⟩ := htl
     by_cases hkt : kk ≤ tt
     · obtain ⟨q, hq⟩ : ∃ q, run m (.joined (tt + 1)) s'.skip = q := ⟨_, rfl⟩
       have hR : run (m + 1) (.loopJ kk x) s' = run m (.loopJ kk (mkE 17 0 E0 t E0 [x, hdE q.1])) q.2 := by simp only [run, h0, htt, if_pos hkt, hq]
       rw [hR] at hrun
       obtain ⟨ta, hg0⟩ := fx_get h0
       have htx : t.size ≤ maxLen := hf.1.2.text hg0
       have hne := ne_of_get hg0
       have h1 : 1 ≤ s'.len := by
         cases hw : s'.ws with
         | nil => exact absurd hw hne
         | cons x l => simp [RS.len, hw]
       have h2 := len_skip s'
       have h3 : q.2.len ≤ s'.skip.len := by have := run_len m (.joined (tt + 1)) s'.skip; rw [hq] at this; exact this
       have hE : enough m (.joined (tt + 1)) s'.skip := by simp only [enough, Md.rank] at hen ⊢; omega
       have hen2 : enough m (.loopJ kk (mkE 17 0 E0 t E0 [x, hdE q.1])) q.2 := by simp only [enough, Md.rank] at hen ⊢; omega
       have HRUN := Lib.hid hrun
       have HEN2 := Lib.hid hen2
       have HSK := Lib.hid (skip_any W0 wr c s' hf.1.2 hne)
       have HX : Hid (∀ w', FolAt W0 w c w2.heap.size s'.skip x k n' tx nm ty A cap l w' → Calls Tryz.prog 49 #[.pointer (some ⟨c, 0, none⟩), .int .i64 (tt + 1)] w' (ExC W0 c w' q)) := by
         show ∀ w', _
         intro w' h'; have := HIH.out m (by omega) W0 w' c s'.skip (tt + 1) HV.out h'.1.2 (by omega) (by omega) hE; rw [hq] at this; exact this
       have hlt' : ¬ tt < kk := by omega
       have hwr0 : wrap64 (tt + 1) = tt + 1 := by unfold wrap64; omega
       have hwr : IntKind.i64.wrap (tt + 1) = tt + 1 := by rw [IntKind.wrap_i64]; omega
       clear hR hrun hen hE hen2 hq hf h0 hg0 htt hne
       go_wp2_with fail
       refine HA.out.mono ?_
       clear HA
       rintro e w3 ⟨rfl, rfl⟩
       go_wp2_with fail
       refine HT.out.mono ?_
       clear HT
       rintro e w3 ⟨rfl, rfl⟩
       go_wp2_with fail
       refine HSK.out.mono ?_
       clear HSK hasf
       rintro e w3 ⟨rfl, hm⟩
       have HF2 := Lib.hid (HF1.out.move hm)
       have HFD : Hid (FolAt W0 w c w2.heap.size s'.skip x k n' tx nm ty A cap l w3.drew) := Lib.hid (HF2.out.below (Below.refl _ _).drew)
       obtain ⟨a0, a1, a2, a3, a4, a5, a6, a7⟩ := HF2.out.2.1.all_8
       have hlt3 : w2.heap.size < w3.drew.heap.size := HFD.out.2.1.lt
       clear hm
       go_wp2_with fail
       go_region_law (go_simp; go_wp2_with (go_at_call 49; refine (HX.out _ HFD.out).mono ?_; rintro e w4 ⟨z, rfl, hk, hm⟩; have HF4 := Lib.hid (HFD.out.move hm); have HZ := Lib.hid (hk.past (show w2.heap.size < _ from hlt3) (show w.heap.size + 1 ≤ _ by omega)); have hbz := Lib.hid hk.bare; obtain ⟨zk, zn, ztx, znm, zty, zA, zc, zl, rfl, _, _, _⟩ := hk; obtain ⟨b0, b1, b3, b4, b5, b6, b7, b8⟩ := HF4.out.2.1.all_8; obtain ⟨W5, hW5⟩ : ∃ W5, w4.alloc (.cells #[.int .i64 k, .int .i32 n', .string tx, .string nm, .string ty, .slice A l.length cap, .string ⟨#[]⟩, .int .i64 0, .int .i64 zk, .int .i32 zn, .string ztx, .string znm, .string zty, .slice zA zl.length zc, .string ⟨#[]⟩, .int .i64 0] 36) = W5 := ⟨_, rfl⟩; have hb5 : Below w4.heap.size w4 W5 := by { rw [← hW5]; exact (Below.refl _ _).alloc (Nat.le_refl _) _ }; have HF5 := Lib.hid (HF4.out.below hb5); have HO5 := Lib.hid (OwnR.two HF4.out.2.2.2.1 HZ.out (by have := HF4.out.2.1.lt; omega)); simp only [cellsN, List.cons_append, List.nil_append] at HO5; rw [hW5] at HO5; obtain ⟨r0, r1, r2, r3, r4, r5, r6, r7⟩ := HF5.out.2.1.all_8; have g0 := HF5.out.2.1.fro 0; have g1 := HF5.out.2.1.fro 1; have g2 := HF5.out.2.1.fro 2; have g3 := HF5.out.2.1.fro 3; have g4 := HF5.out.2.1.fro 4; have g5 := HF5.out.2.1.fro 5; have g6 := HF5.out.2.1.fro 6; have g7 := HF5.out.2.1.fro 7; have hlt4 := HF4.out.2.1.lt; clear hm hb5; simp only [cellsN]))
       all_goals
         have HK6 : Hid (bareN (mkE 17 0 E0 t E0 [x, hdE q.1]) = .ex 17 0 ⟨#[]⟩ t ⟨#[]⟩ (.slice none 0 0) (bareL [Nd.ex k n' tx nm ty (.slice A l.length cap) l ⟨#[]⟩ 0, Nd.ex zk zn ztx znm zty (.slice zA zl.length zc) zl ⟨#[]⟩ 0]) ⟨#[]⟩ 0) := Lib.hid (mk_bare (by simp only [bareL]; rw [HF2.out.2.2.2.1.bare, hbz.out]) _ _ _ _ _)
         have hn4 : ∀ g, some w2.heap.size = some g → (Value.slice (some ⟨w4.heap.size, 0, none⟩) 2 2).ownBlock ≠ some g := by intro g hg; injection hg with hg; subst hg; simp only [Value.ownBlock, ne_eq, Option.some.injEq]; omega
         have hszz : (⟨#[]⟩ : ByteArray).size ≤ maxLen ∧ t.size ≤ maxLen ∧ (⟨#[]⟩ : ByteArray).size ≤ maxLen := ⟨Nat.zero_le _, htx, Nat.zero_le _⟩
         have hmn' : m ≤ n := by omega
         clear a0 a1 a2 a3 a4 a5 a6 a7
         go_wp2_with fail
         have hk6 := HO5.out.node hn4 17 0 ⟨#[]⟩ t ⟨#[]⟩ hszz HK6.out
         have HF6 := Lib.hid (HF5.out.put (l := [_, _]) hk6)
         go_roundw
         case rel => exact ⟨m, _, _, _, _, _, _, _, _, _, _, hmn', HRUN.out, HEN2.out, HF6.out⟩
         case measure => (refine Nat.lt_of_le_of_lt (Nat.le_of_eq (lenAt_of HF6.out.1.2)) ?_; rw [hla]; omega)
     · have hR : run (m + 1) (.loopJ kk x) s' = ([x], s') := by simp only [run, h0, htt, if_neg hkt]
       rw [hR] at hrun
       subst hrun
       have HF3 := HF1
       have hlt' : tt < kk := by omega
       clear hR hen hf h0
       go_wp2_with fail
       refine HA.out.mono ?_
       clear HA
       rintro e w3 ⟨rfl, rfl⟩
       go_wp2_with fail
       refine HT.out.mono ?_
       clear HT
       rintro e w3 ⟨rfl, rfl⟩
       have hx2 := HF3.out.2.2.1
       obtain ⟨r0, r1, r2, r3, r4, r5, r6, r7⟩ := hx2.all_8
       have g0 := hx2.fro 0; have g1 := hx2.fro 1; have g2 := hx2.fro 2; have g3 := hx2.fro 3; have g4 := hx2.fro 4; have g5 := hx2.fro 5; have g6 := hx2.fro 6; have g7 := hx2.fro 7
       obtain ⟨a0, a1, a2, a3, a4, a5, a6, a7⟩ := HF3.out.2.1.all_8
       have HG := Lib.hid (grown_8 wr w.heap.size (.int .i64 k) (.int .i32 n') (.string tx) (.string nm) (.string ty) (.slice A l.length cap) (.string ⟨#[]⟩) (.int .i64 0))
       clear hx2
       go_wp2_with fail
       obtain ⟨z0, z1, z2, z3, z4, z5, z6, z7⟩ := (HF3.out.2.2.1.to_8 (.int .i64 k) (.int .i32 n') (.string tx) (.string nm) (.string ty) (.slice A l.length cap) (.string ⟨#[]⟩) (.int .i64 0)).all_8
       (try simp only [Exit.inBlock, Exit.then])
       refine bodyPost_ret (v := .agg #[.int .i64 k, .int .i32 n', .string tx, .string nm, .string ty, .slice A l.length cap, .string ⟨#[]⟩, .int .i64 0]) (by simp [results, Tryz.results49, go_sem, z0, z1, z2, z3, z4, z5, z6, z7]) rfl ?_
       exact ⟨_, rfl, (HF3.out.2.2.2.1.free.grown HG.out (.inl (by omega))).mono (by omega), Mv.over (Below.refl _ _) HF3.out.1 HG.out (Nat.le_refl _) hlt⟩
end
section
open Go.RowKit
theorem signed_of (n : Nat) (IHS : SpecS n) (IHF : SpecF n) : SpecS (n + 1) := by
 intro W0 w c s hv h hn
 cases h0 : s.sees 0 sMinus with
 | true => exact signed_0 n IHS W0 w c s hv h hn h0
 | false =>
   cases h1 : s.sees 0 sNot with
   | true => exact signed_1 n IHS W0 w c s hv h hn h0 h1
   | false =>
     cases h2 : s.sees 0 sLen with
     | true => exact signed_2 n IHS W0 w c s hv h hn h0 h1 h2
     | false => exact signed_3 n IHF W0 w c s hv h hn h0 h1 h2
structure AllSp (n : Nat) : Prop where
 e : SpecE n
 j : SpecJ n
 s : SpecS n
 f : SpecF n
 a : SpecA n
 x : SpecX n
 u : SpecU n
 r : SpecR n
 l : SpecL n
theorem allSp_zero : AllSp 0 := by
 constructor
 · intro W0 w c s hv h hn; simp only [enough, Md.rank] at hn; omega
 · intro W0 w c s k hv h h1 h7 hn; simp only [enough, Md.rank] at hn; omega
 · intro W0 w c s hv h hn; simp only [enough, Md.rank] at hn; omega
 · intro W0 w c s hv h hn; simp only [enough, Md.rank] at hn; omega
 · intro W0 w c s hv h hn; simp only [enough, Md.rank] at hn; omega
 · intro W0 w c s hv h hn; simp only [enough, Md.rank] at hn; omega
 · intro W0 w B r c s p k ty v xs ys hv h hn; simp only [enough, Md.rank] at hn; omega
 · intro W0 w c s hv h hn; simp only [enough, Md.rank] at hn; omega
 · intro W0 w c s hv h hn; simp only [enough, Md.rank] at hn; omega
theorem allSp : ∀ n, AllSp n := by
 intro n
 induction n using Nat.strongRecOn with
 | ind n ih =>
   cases n with
   | zero => exact allSp_zero
   | succ n =>
     have h := ih n (by omega)
     exact ⟨expr_of n h.j, joined_of n h.s (fun m hm => (ih m (by omega)).j), signed_of n h.s h.f, followed_of n h.a (fun m hm => (ih m (by omega)).u), atom_of n h.u h.x, fixed_of n h.u h.r h.e, used_of n h.r, args_of n h.l, listed_of n (fun m hm => (ih m (by omega)).e)⟩
theorem ex_any : ExAny := fun W0 w c s hv h => (allSp (14 * s.len + 9)).e W0 w c s hv h (Nat.le_refl _)
theorem ar_any : ArAny := fun W0 w c s hv h => (allSp (14 * s.len + 12)).r W0 w c s hv h (Nat.le_refl _)
theorem prg_any (W0 w : World) (c : Nat) (s : RS) (hv : Vars W0) (h : Rd W0 c s w) : Calls Tryz.prog 13 #[.pointer (some ⟨c, 0, none⟩)] w (PgC W0 c w (prg s)) := prog_any ex_any ar_any W0 w c s hv h
end
section
open Go.RowKit
def plcells (x : Pl) : List Value := [x.1.V, .int .i64 x.2]
theorem Tryz.infoPl : (Tryz.prog.info? 82).map (fun i => (i.zero, i.size, i.bytes)) = some (some (.agg #[.nilIface, .int .i64 0]), 2, 24) := by kernel_rfl
theorem pr_one (x : Pr) : x.V.oneCell' = true := by cases x <;> rfl
theorem pl_one (l : List Pl) : ∀ u ∈ l.flatMap plcells, u.oneCell' = true := by
 intro u hu
 rw [List.mem_flatMap] at hu
 obtain ⟨x, hx, hu⟩ := hu
 simp only [plcells, List.mem_cons, List.not_mem_nil, or_false] at hu
 rcases hu with rfl | rfl
 · exact pr_one _
 · rfl
theorem plflat_get : ∀ (l : List Pl) (i j : Nat) (x : Pl), l[i]? = some x → j < 2 → (l.flatMap plcells)[i * 2 + j]? = (plcells x)[j]?
 | [], i, j, x, h, _ => by simp at h
 | y :: l, 0, j, x, h, hj => by
   simp only [List.getElem?_cons_zero, Option.some.injEq] at h
   subst h
   simp only [List.flatMap_cons, Nat.zero_mul, Nat.zero_add]
   rw [List.getElem?_append_left (by simpa [plcells] using hj)]
 | y :: l, i + 1, j, x, h, hj => by
   simp only [List.getElem?_cons_succ] at h
   have := plflat_get l i j x h hj
   simp only [List.flatMap_cons]
   rw [List.getElem?_append_right (by simp [plcells]; omega), ← this]
   congr 1
   simp [plcells]; omega
theorem ww_own {B : Nat} {w : World} {v : Value} {l : List Pl} (h : w.ownsRow B 82 2 v l.length (l.flatMap plcells)) (hm : l.length ≤ 1000000) (ht : ∀ x ∈ l, x.1.text.size ≤ 1000000) (hc : ∃ A n cap, v = .slice A n cap ∧ cap ≤ maxLen) : Ww w v l := by
 obtain ⟨A, cap, rfl, hcap⟩ := own_form h
 obtain ⟨A', n', cap', e, hcm⟩ := hc
 injection e with e1 e2 e3
 refine ⟨A, cap, rfl, ⟨hm, hcap, by omega⟩, ht, fun hn => ?_⟩
 obtain ⟨g, cap2, hv, hg, hl, hat⟩ := own_row h hn
 injection hv with h1 h2 h3
 refine ⟨g, 0, h1, fun i x hx => ⟨?_, ?_⟩⟩
 · have := (hat (i * 2 + 0) x.1.V (by rw [plflat_get l i 0 x hx (by omega)]; rfl)).1
   rw [Nat.zero_add]; exact this
 · have := (hat (i * 2 + 1) (.int .i64 x.2) (by rw [plflat_get l i 1 x hx (by omega)]; rfl)).1
   rw [Nat.zero_add]; exact this
theorem wflat_get : ∀ (l : List Wd) (i j : Nat) (x : Wd), l[i]? = some x → j < 3 → (cellsW l)[i * 3 + j]? = (wcells x)[j]?
 | [], i, j, x, h, _ => by simp at h
 | y :: l, 0, j, x, h, hj => by
   simp only [List.getElem?_cons_zero, Option.some.injEq] at h
   subst h
   simp only [cellsW, List.flatMap_cons, Nat.zero_mul, Nat.zero_add]
   rw [List.getElem?_append_left (by simpa [wcells] using hj)]
 | y :: l, i + 1, j, x, h, hj => by
   simp only [List.getElem?_cons_succ] at h
   have := wflat_get l i j x h hj
   simp only [cellsW, List.flatMap_cons] at this ⊢
   rw [List.getElem?_append_right (by simp [wcells]; omega), ← this]
   congr 1
   simp [wcells]; omega
structure MkAt (w : World) (b0 : Nat) (sz e a : Int) (ws : List Wd) (vw : Value) (k : Nat) (wr : World) (A : Option Addr) (cap : Nat) : Prop where
 bel : Below w.heap.size w wr
 bx : Bx wr b0 #[.slice A ((ws.map plOf).take k).length cap, .int .i64 sz, .int .i64 0, .int .i64 e, .int .i64 a, .int .i64 0, .int .i64 0] 57
 own : wr.ownsRow (b0 + 1) 82 2 (.slice A ((ws.map plOf).take k).length cap) ((ws.map plOf).take k).length (((ws.map plOf).take k).flatMap plcells)
 row : wr.ownsRow w.heap.size 78 3 vw ws.length (cellsW ws)
 old : ∀ g, vw.ownBlock = some g → g < b0
 hb : w.heap.size ≤ b0
section
variable {w wr w' : World} {b0 : Nat} {sz e a : Int} {ws : List Wd} {vw : Value} {k : Nat} {A : Option Addr} {cap : Nat}
theorem MkAt.below (h : MkAt w b0 sz e a ws vw k wr A cap) (hb : Below wr.heap.size wr w') : MkAt w b0 sz e a ws vw k w' A cap :=
 ⟨h.bel.trans (hb.mono h.bel.size), h.bx.next hb, own_next h.own hb, own_next h.row hb, h.old, h.hb⟩
theorem MkAt.put {x : Wd} {A3 : Option Addr} {c3 n : Nat} (h : MkAt w b0 sz e a ws vw k wr A cap) (hx : ws[k]? = some x) (ho : w'.ownsRow (b0 + 1) 82 2 (.slice A3 n c3) n (((ws.map plOf).take k).flatMap plcells ++ plcells (plOf x)))
   (hg : wr.grownBy w' (Value.slice A ((ws.map plOf).take k).length cap).ownBlock) (hn : n = ((ws.map plOf).take (k + 1)).length) : MkAt w b0 sz e a ws vw (k + 1) (w'.setCell ⟨b0, 0, none⟩ (.slice A3 n c3)) A3 c3 := by
 subst hn
 have hgg := grown_set_at w' b0 0 (.slice A3 ((ws.map plOf).take (k + 1)).length c3)
 have hbx : Bx w' b0 #[.slice A ((ws.map plOf).take k).length cap, .int .i64 sz, .int .i64 0, .int .i64 e, .int .i64 a, .int .i64 0, .int .i64 0] 57 :=
   (hg.block b0 h.bx.lt (fun q => by have := (h.own.lt b0 q.symm).1; omega)).trans h.bx
 have hrow : w'.ownsRow w.heap.size 78 3 vw ws.length (cellsW ws) := h.row.kept hg (by
   cases hv : vw.ownBlock with
   | none => exact .inl rfl
   | some g => exact .inr (fun q => by have h1 := h.old g hv; have := (h.own.lt g q.symm).1; omega))
 refine ⟨(h.bel.grown hg h.bel.size (fun q hq => by have := (h.own.lt q hq).1; have := h.hb; omega)).setCell h.hb _, ?_, ?_, hrow.kept hgg (by
   cases hv : vw.ownBlock with
   | none => exact .inl rfl
   | some g => exact .inr (by have := h.old g hv; simp; omega)), h.old, h.hb⟩
 · have := hbx.set 0 (.slice A3 ((ws.map plOf).take (k + 1)).length c3)
   simpa using this
 · have e1 : (ws.map plOf).take (k + 1) = (ws.map plOf).take k ++ [plOf x] := by rw [List.take_add_one, List.getElem?_map, hx]; rfl
   have e2 : ((ws.map plOf).take (k + 1)).flatMap plcells = ((ws.map plOf).take k).flatMap plcells ++ plcells (plOf x) := by rw [e1]; simp
   rw [e2]
   refine ho.kept hgg ?_
   cases hv : (Value.slice A3 ((ws.map plOf).take (k + 1)).length c3).ownBlock with
   | none => exact .inl rfl
   | some g => exact .inr (by have := (ho.lt g hv).1; simp; omega)
end
end
end Go.Proofs.YtnbfajmdfkgebaaGreatDoor
