/- kin: chain. -/
import Derived.Test.YteogphbdpjnjoaaGreatKinE
import Derived.OwnWalk
set_option linter.unusedSimpArgs false
set_option linter.unusedVariables false
namespace Go.Proofs.YteogphbdpjnjoaaGreat
open Go.RowKit
theorem Tryz.infoBoolK : (Tryz.prog.info? 4).map (fun i => (i.zero, i.size, i.bytes)) = some (some (.bool false), 1, 1) := by kernel_rfl
/-- Marks of so many places. -/
def boolsV (f : Nat → Bool) (m : Nat) : List Value := (List.range m).map fun j => .bool (f j)
theorem boolsV_at {f : Nat → Bool} {m j : Nat} (h : j < m) : (boolsV f m)[j]? = some (.bool (f j)) := by simp [boolsV, h]
theorem boolsV_set (f : Nat → Bool) (m j : Nat) (b : Bool) : (boolsV f m).set j (.bool b) = boolsV (fun k => if k = j then b else f k) m := by
  apply List.ext_getElem?
  intro k
  rw [List.getElem?_set]
  by_cases hk : k < m
  · by_cases hj : j = k
    · subst hj; simp [boolsV, hk]
    · rw [if_neg hj, boolsV_at hk, boolsV_at hk, if_neg (fun e => hj e.symm)]
  · have h1 : (boolsV f m)[k]? = none := by simp [boolsV]; omega
    have h2 : (boolsV (fun k => if k = j then b else f k) m)[k]? = none := by simp [boolsV]; omega
    rw [h1, h2]
    by_cases hj : j = k
    · subst hj; simp [boolsV]; omega
    · simp [hj]
theorem boolsV_made (m : Nat) : (madeCells #[.bool false] (m * 1)).toList = boolsV (fun _ => false) m := by
  rw [Nat.mul_one]
  apply List.ext_getElem?
  intro k
  simp only [madeCells, boolsV, Array.toList_map, Array.toList_range, List.getElem?_map]
  simp [Nat.mod_one]
def seenF (n : Nat) (l : List Nat) (j : Nat) : Bool := decide (j = n ∨ j ∈ l)
theorem gen_worldK {P : Program} {c : Code} {Q : Exit → Act → World → Prop} {a : Act} {W0 : World} (F : World → Prop) (h0 : F W0) (h : ∀ W, F W → Code.wp P c Q a W) : Code.wp P c Q a W0 := h W0 h0
theorem grown_set_atK (w : World) (g o : Nat) (u : Value) : w.grownBy (w.setCell ⟨g, o, none⟩ u) (some g) :=
  ⟨rfl, rfl, rfl, by simp, fun k hk hne => Below.heap_setCell w _ u k (fun e => hne (by rw [e]))⟩
theorem Bx.setK {w : World} {b : Nat} {cs : Array Value} {T : TypeId} (h : Bx w b cs T) (g o : Nat) (u : Value) (hne : b ≠ g) : Bx (w.setCell ⟨g, o, none⟩ u) b cs T := (Below.heap_setCell w ⟨g, o, none⟩ u b hne).trans h
theorem Bx.grownK {w w' : World} {b : Nat} {cs : Array Value} {T : TypeId} {row : Option Nat} (h : Bx w b cs T) (hg : w.grownBy w' row) (hne : some b ≠ row) : Bx w' b cs T := (hg.block b h.lt hne).trans h
theorem cell_one_newK (w : World) (x : Value) (t : TypeId) : ∀ (j : Nat) (u : Value), [x][j]? = some u → (w.alloc (.cells #[x] t)).cell? ((⟨w.heap.size, 0, none⟩ : Addr).add j) = some u := cell_one_new w x t
theorem seen_nil (n : Nat) : boolsV (fun k => if k = n then true else (fun _ => false) k) (n + 1) = boolsV (seenF n []) (n + 1) := by
  congr 1; funext k; simp [seenF]
theorem seen_snoc (n : Nat) (l : List Nat) (i : Nat) : (fun k => if k = i then true else seenF n l k) = seenF n (l ++ [i]) := by
  funext k; unfold seenF; by_cases h : k = i
  · simp [h]
  · simp [h]
theorem mk_factsK {w w1 : World} {x0 x1 x2 : Value} {T : TypeId} {m : Nat} (ho : w1.ownsRow w.heap.size 4 1 (.slice (some ⟨(w.alloc (.cells #[x0, x1, x2] T)).heap.size, 0, none⟩) m m) m (madeCells (Value.bool false).cells (m * 1)).toList) (hg : (w.alloc (.cells #[x0, x1, x2] T)).grownBy w1 none) :
    Bx w1 w.heap.size #[x0, x1, x2] T ∧ Below w.heap.size w w1 ∧ w1.ownsRow w.heap.size 4 1 (.slice (some ⟨w.heap.size + 1, 0, none⟩) m m) m (boolsV (fun _ => false) m) := by
  have hs1 : (w.alloc (.cells #[x0, x1, x2] T)).heap.size = w.heap.size + 1 := by simp
  have hbw : Below (w.alloc (.cells #[x0, x1, x2] T)).heap.size (w.alloc (.cells #[x0, x1, x2] T)) w1 := (Below.refl _ _).grown hg (Nat.le_refl _) (fun k h => by cases h)
  refine ⟨(Bx.new w _ T).next hbw, below_box hbw, ?_⟩
  rw [hs1, show (Value.bool false).cells = #[.bool false] from rfl, boolsV_made] at ho
  exact ho
def lenOf : Value → Nat
  | .slice _ n _ => n
  | _ => 0
def ChainSaid (ps : List Hdr) (i0 : Nat) (w : World) (e : Ending) (w' : World) : Prop := ∃ v l, e = .returned v ∧ w'.ownsRow w.heap.size 3 1 v l.length (intsV l) ∧ Ch ps i0 l ∧ Below w.heap.size w w'
structure ChR (ps : List Hdr) (i0 : Nat) (w : World) (n sb : Nat) (fcs : Array Value) (v6 : Value) (l : List Nat) (i : Nat) (wr : World) : Prop where
  len : ps.length = n
  bel : Below w.heap.size w wr
  way : Way ps i0 l i
  ile : i ≤ n
  own : wr.ownsRow (w.heap.size + 1) 3 1 v6 l.length (intsV l)
  seen : wr.ownsRow w.heap.size 4 1 (.slice (some ⟨sb, 0, none⟩) (n + 1) (n + 1)) (n + 1) (boolsV (seenF n l) (n + 1))
  box : Bx wr w.heap.size fcs 163
  ne : v6.ownBlock ≠ some sb
theorem ChR.ends {ps : List Hdr} {i0 : Nat} {w : World} {n sb : Nat} {fcs : Array Value} {v6 : Value} {l : List Nat} {i : Nat} {wr : World} (h : ChR ps i0 w n sb fcs v6 l i wr) (hs : seenF n l i = true) : Ch ps i0 l := by
  refine ⟨i, h.way, ?_⟩
  unfold seenF at hs
  have := h.len
  rcases of_decide_eq_true hs with e | e
  · left; omega
  · right; exact e
theorem own_baseK {w : World} {B B' sz n : Nat} {e : TypeId} {v : Value} {xs : List Value} (h : w.ownsRow B e sz v n xs) (hB : B' ≤ B) : w.ownsRow B' e sz v n xs :=
  ⟨h.1, h.2.imp id fun ⟨g, cap, cur, a, b, c⟩ => ⟨g, cap, cur, a, Nat.le_trans hB b, c⟩⟩
theorem own_lenOf {w : World} {B sz n : Nat} {e : TypeId} {v : Value} {xs : List Value} (h : w.ownsRow B e sz v n xs) : lenOf v = n := by
  obtain ⟨A, c, rfl, _⟩ := own_form h; rfl
structure ChA (ps : List Hdr) (i0 : Nat) (w : World) (n sb : Nat) (fcs : Array Value) (v6 : Value) (l : List Nat) (i : Nat) (W : World) : Prop where
  bel : Below w.heap.size w W
  own : W.ownsRow (w.heap.size + 1) 3 1 v6 l.length (intsV l)
  seen : W.ownsRow w.heap.size 4 1 (.slice (some ⟨sb, 0, none⟩) (n + 1) (n + 1)) (n + 1) (boolsV (seenF n (l ++ [i])) (n + 1))
  box : Bx W w.heap.size fcs 163
  ne : v6.ownBlock ≠ some sb
theorem ChR.marked {ps : List Hdr} {i0 : Nat} {w : World} {n sb : Nat} {fcs : Array Value} {v6 : Value} {l : List Nat} {i : Nat} {wr : World} (h : ChR ps i0 w n sb fcs v6 l i wr) (hsb : w.heap.size < sb) : ChA ps i0 w n sb fcs v6 l i (wr.setCell ⟨sb, i, none⟩ (.bool true)) := by
  refine ⟨h.bel.setCell (Nat.le_of_lt hsb) _, h.own.kept (grown_set_atK _ _ _ _) (.inr h.ne), ?_, h.box.setK sb i _ (by omega), h.ne⟩
  have := (h.seen.stored i (.bool true)).1
  rw [boolsV_set, seen_snoc] at this
  exact this
theorem ChA.more {ps : List Hdr} {i0 : Nat} {w : World} {n sb : Nat} {fcs : Array Value} {v6 : Value} {l : List Nat} {i : Nat} {W w3 : World} {o : Obj} {v' : Value} (h : ChA ps i0 w n sb fcs v6 l i W)
    (hown : w3.ownsRow (w.heap.size + 1) 3 1 v' (l.length + 1) (intsV l ++ [.int .i64 i])) (hg : (W.alloc o).grownBy w3 v6.ownBlock) (hat : v'.ownBlock = v6.ownBlock ∨ v'.ownBlock = some (W.heap.size + 1)) :
    Below w.heap.size w w3 ∧ Bx w3 w.heap.size fcs 163 ∧ w3.ownsRow (w.heap.size + 1) 3 1 v' (l ++ [i]).length (intsV (l ++ [i])) ∧ w3.ownsRow w.heap.size 4 1 (.slice (some ⟨sb, 0, none⟩) (n + 1) (n + 1)) (n + 1) (boolsV (seenF n (l ++ [i])) (n + 1)) ∧ v'.ownBlock ≠ some sb := by
  have hsb := (h.seen.lt sb rfl).2
  have hsz := h.bel.size
  refine ⟨(h.bel.alloc hsz o).grown hg (by simp; omega) (fun k hk => by have := (h.own.lt k hk).1; omega), ?_, ?_, (h.seen.alloc o).kept hg (.inr (fun e => h.ne e.symm)), ?_⟩
  · exact (h.box.next ((Below.refl _ _).alloc (Nat.le_refl _) o)).grownK hg (fun e => by have := (h.own.lt _ e.symm).1; omega)
  · rw [intsV_snoc, List.length_append]; exact hown
  · rcases hat with e | e
    · rw [e]; exact h.ne
    · rw [e]; simp; omega
set_option maxRecDepth 100000 in
set_option maxHeartbeats 4000000 in
theorem chain_any {w : World} {fv : Value} {ps : List Hdr} (h : Fm w fv ps) (nm : ByteArray) : Calls Tryz.prog 153 #[fv, .string nm] w (ChainSaid ps (plc ps nm) w) := by
  obtain ⟨g, cap, rfl, hcap, hg, hx⟩ := fam_box h
  have HF := Lib.hid h
  obtain ⟨_, _, _, h5, h64⟩ := h
  obtain ⟨n, hn⟩ : ∃ n, ps.length = n := ⟨_, rfl⟩
  have HL := Lib.hid hn
  obtain ⟨i0, hi0⟩ : ∃ i0, plc ps nm = i0 := ⟨_, rfl⟩
  have hi0n : i0 ≤ n := by rw [← hi0, ← hn]; exact plc_le _ _
  have HN : Hid (∀ w', Below w.heap.size w w' → Calls Tryz.prog 93 #[.agg #[.slice (some ⟨g, 0, none⟩) n cap, .int .i64 5, .map none]] w' fun e w'' => e = .returned (.int .i64 n) ∧ Below w'.heap.size w' w'') := Lib.hid fun w' hb => by rw [← hn]; exact none_any (HF.out.keep (KeepC.below hb))
  have HP : Hid (∀ w', Below w.heap.size w w' → Calls Tryz.prog 91 #[.agg #[.slice (some ⟨g, 0, none⟩) n cap, .int .i64 5, .map none], .string nm] w' fun e w'' => e = .returned (.int .i64 i0) ∧ Below w'.heap.size w' w'') := Lib.hid fun w' hb => by rw [← hn, ← hi0]; exact place_any (HF.out.keep (KeepC.below hb)) nm
  have HU : Hid (∀ w' (i : Nat), Below w.heap.size w w' → i < n → Calls Tryz.prog 129 #[.agg #[.slice (some ⟨g, 0, none⟩) n cap, .int .i64 5, .map none], .int .i64 i] w' fun e w'' => e = .returned (.int .i64 (upp ps i)) ∧ Below w'.heap.size w' w'') := Lib.hid fun w' i hb hi => by rw [← hn]; exact up_any (HF.out.keep (KeepC.below hb)) i (by rw [hn]; exact hi)
  rw [hi0]
  rw [hn] at hcap h5 h64 ⊢
  obtain ⟨ib, hib, hb0, hb1, hb2⟩ := info_parts Tryz.infoBoolK
  clear HF hn hx hi0
  go_enter Tryz.func153, Tryz.ntmps153
  go_wp2_with (at_make; refine wpList_make_full _ rfl (.tmp 11) (.tmp 11) 83 rfl w.heap.size 4 ib (.bool false) 1 Tryz.underlying83 hib hb0 hb1 .i64 .i64 _ _ (n + 1) rfl rfl (by omega) (by omega) (by rw [hb2]; omega) (by unfold maxLen; omega) (by simp) ?_; intro w1 hown1 hgr1; obtain ⟨hX1, hb1, hown1'⟩ := mk_factsK hown1 hgr1; clear hown1 hgr1; have hown1 := hown1'; clear hown1'; have c0 := hX1.cell 0; have c1 := hX1.cell 1; have c2 := hX1.cell 2)
  refine (HN.out _ hb1).mono ?_
  rintro e w2 ⟨rfl, hb2⟩
  have hX2 := hX1.next hb2
  have hown2 := own_next hown1 hb2
  replace hb2 := hb1.trans (hb2.mono hb1.size)
  clear c0 c1 c2 hX1 hown1 hb1
  have d0 := hown2.cellAt n (by omega)
  rw [boolsV_at (show n < n + 1 by omega)] at d0
  have d1 := hown2.frozenAt n
  have hown3 := (hown2.stored n (.bool true)).1
  rw [boolsV_set, seen_nil] at hown3
  have hX3 := hX2.setK (w.heap.size + 1) n (.bool true) (by omega)
  have hb3 : Below w.heap.size w (w2.setCell ⟨w.heap.size + 1, n, none⟩ (.bool true)) := hb2.setCell (by simp) _
  have hn1 : (n : Int) < n + 1 := by omega
  have hlt := hX2.lt
  have O3 := Lib.hid hown3
  have X3 := Lib.hid hX3
  have B3 := Lib.hid hb3
  clear hown2 hown3 hX2 hX3 hb2 hb3
  go_upto_region 4 with (fail)
  refine gen_worldK (fun W => Bx W w.heap.size #[.slice (some ⟨g, 0, none⟩) n cap, .int .i64 5, .map none] 163 ∧ Below w.heap.size w W ∧ W.ownsRow w.heap.size 4 1 (.slice (some ⟨w.heap.size + 1, 0, none⟩) (n + 1) (n + 1)) (n + 1) (boolsV (seenF n []) (n + 1))) ⟨X3.out, B3.out, O3.out⟩ ?_
  clear X3 B3 O3 d0 d1 hlt
  rintro W ⟨hX, hb, hO⟩
  have c0 := hX.cell 0
  have c1 := hX.cell 1
  have c2 := hX.cell 2
  go_wp2_with fail
  refine (HP.out _ hb).mono ?_
  rintro e W1 ⟨rfl, hb1⟩
  replace hX := hX.next hb1
  replace hO := own_next hO hb1
  replace hb := hb.trans (hb1.mono hb.size)
  clear hb1 c0 c1 c2
  go_wp2_with fail
  go_loopw [6, 7] (fun v6 v7 wr => ∃ (l : List Nat) (i : Nat), v7 = .int .i64 i ∧ ChR ps i0 w n (w.heap.size + 1) #[.slice (some ⟨g, 0, none⟩) n cap, .int .i64 5, .map none] v6 l i wr) (fun v6 v7 wr => n - lenOf v6)
  case atStart => exact ⟨[], i0, rfl, ⟨HL.out, hb, Way.nil _ _, hi0n, World.ownsRow_nil _ _ _ _, hO, hX, by simp [Value.ownBlock]⟩⟩
  case round =>
    obtain ⟨l, i, rfl, hR⟩ := hrel
    clear hX hO hb
    have hin := hR.ile
    have d0 := hR.seen.cellAt i (by omega)
    rw [boolsV_at (show i < n + 1 by omega)] at d0
    have d1 := hR.seen.frozenAt i
    have hn1 : (i : Int) < n + 1 := by omega
    cases hs : seenF n l i
    · rw [hs] at d0
      have hi0 : i ≠ n ∧ i ∉ l := by unfold seenF at hs; have := of_decide_eq_false hs; exact ⟨fun e => this (.inl e), fun e => this (.inr e)⟩
      have hi1 : i < n := by omega
      have hA := Lib.hid (hR.marked (Nat.lt_succ_self _))
      have hway := Lib.hid (hR.way.step (by rw [hR.len]; exact hi1) hi0.2)
      have hup := Lib.hid (upp_le ps i)
      have hM := Lib.hid (own_lenOf hR.own)
      have hl64 : l.length ≤ 64 := by have := hR.way.len; rw [hR.len] at this; omega
      have hl64' : (l ++ [i]).length ≤ n := by have := hway.out.len; rw [hR.len] at this; exact this
      clear hs hi0 hR
      go_upto_region 8 with (fail)
      refine gen_worldK (ChA ps i0 w n (w.heap.size + 1) #[.slice (some ⟨g, 0, none⟩) n cap, .int .i64 5, .map none] u6 l i) hA.out ?_
      clear hA d0 d1
      intro W hA
      obtain ⟨ii, hii, hiz, his, hib⟩ := info_parts Tryz.infoIntK
      have hsz := hA.bel.size
      go_wp2_with (at_builtin; refine wpList_append_own_at _ rfl (.tmp 31) (.tmp 33) 32 rfl (w.heap.size + 1) 3 ii _ 1 8 Tryz.underlying32 hii hiz his hib rfl (by decide) u6 l.length (intsV l) rfl (hA.own.alloc _) ⟨W.heap.size, 0, none⟩ 1 1 [.int .i64 i] rfl rfl (cell_one_newK _ _ _) ?c1 ?c2 ?c3 ?c4 ?_)
      case c1 => intro u hu; simp at hu; subst hu; rfl
      case c2 => unfold maxLen; omega
      case c3 => omega
      case c4 => simp; omega
      intro v' w3 hown3 hgrow _ hat
      obtain ⟨f1, f2, f3, f4, f5⟩ := hA.more hown3 hgrow hat
      clear hown3 hgrow hat hA
      have c0 := f2.cell 0
      have c1 := f2.cell 1
      have c2 := f2.cell 2
      go_wp2_with (go_at_call 129; refine (HU.out _ i f1 hi1).mono ?_; rintro e w4 ⟨rfl, hb4⟩)
      go_roundw
      case rel => exact ⟨l ++ [i], upp ps i, rfl, ⟨HL.out, f1.trans (hb4.mono f1.size), hway.out, by rw [← HL.out]; exact hup.out, own_next f3 hb4, own_next f4 hb4, f2.next hb4, f5⟩⟩
      case measure => rw [hM.out, own_lenOf f3]; simp; simp at hl64'; omega
    · rw [hs] at d0
      have HE : Hid (Ch ps i0 l) := Lib.hid (hR.ends hs)
      have HR := Lib.hid hR
      clear hR hs
      go_wp2_with fail
      go_ret
      exact ⟨_, l, rfl, own_baseK HR.out.own (Nat.le_succ _), HE.out, HR.out.bel⟩
end Go.Proofs.YteogphbdpjnjoaaGreat
