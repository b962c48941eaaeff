/- kin: marked. -/
import Derived.Test.YteogphbdpjnjoaaGreatKinF
import Derived.Test.YteogphbdpjnjoaaGreatKinP
set_option linter.unusedSimpArgs false
set_option linter.unusedVariables false
namespace Go.Proofs.YteogphbdpjnjoaaGreat
open Go.RowKit
theorem Tryz.infoMark : (Tryz.prog.info? 167).map (fun i => (i.zero, i.size, i.bytes)) = some (some (.int .i64 0), 1, 8) := by kernel_rfl
def marksV (f : Nat → Nat) (m : Nat) : List Value := (List.range m).map fun j => .int .i64 (f j : Nat)
theorem marksV_at {f : Nat → Nat} {m j : Nat} (h : j < m) : (marksV f m)[j]? = some (.int .i64 (f j : Nat)) := by simp [marksV, h]
theorem marksV_set (f : Nat → Nat) (m j b : Nat) : (marksV f m).set j (.int .i64 (b : Nat)) = marksV (fun k => if k = j then b else f k) m := by
  apply List.ext_getElem?
  intro k
  rw [List.getElem?_set]
  by_cases hk : k < m
  · by_cases hj : j = k
    · subst hj; simp [marksV, hk]
    · rw [if_neg hj, marksV_at hk, marksV_at hk, if_neg (fun e => hj e.symm)]
  · have h1 : (marksV f m)[k]? = none := by simp [marksV]; omega
    have h2 : (marksV (fun k => if k = j then b else f k) m)[k]? = none := by simp [marksV]; omega
    rw [h1, h2]
    by_cases hj : j = k
    · subst hj; simp [marksV]; omega
    · simp [hj]
theorem marksV_made (m : Nat) : (madeCells #[.int .i64 0] (m * 1)).toList = marksV (fun _ => 0) m := by
  rw [Nat.mul_one]
  apply List.ext_getElem?
  intro k
  simp only [madeCells, marksV, Array.toList_map, Array.toList_range, List.getElem?_map]
  simp [Nat.mod_one]
structure MkM (w : World) (n sb : Nat) (fcs : Array Value) (v6 : Value) (xs : List Nat) (M : Nat → Nat) (W : World) : Prop where
  bel : Below w.heap.size w W
  own : W.ownsRow (w.heap.size + 1) 3 1 v6 xs.length (intsV xs)
  marks : W.ownsRow w.heap.size 167 1 (.slice (some ⟨sb, 0, none⟩) (n + 1) (n + 1)) (n + 1) (marksV M (n + 1))
  box : Bx W w.heap.size fcs 163
  ne : v6.ownBlock ≠ some sb
section
variable {w : World} {n sb : Nat} {fcs : Array Value} {v6 : Value} {xs : List Nat} {M : Nat → Nat} {W : World}
theorem MkM.next {W' : World} (h : MkM w n sb fcs v6 xs M W) (hb : Below W.heap.size W W') : MkM w n sb fcs v6 xs M W' :=
  ⟨h.bel.trans (hb.mono h.bel.size), own_next h.own hb, own_next h.marks hb, h.box.next hb, h.ne⟩
theorem MkM.set (h : MkM w n sb fcs v6 xs M W) (hsb : w.heap.size < sb) (i m : Nat) : MkM w n sb fcs v6 xs (fun k => if k = i then m else M k) (W.setCell ⟨sb, i, none⟩ (.int .i64 (m : Nat))) := by
  refine ⟨h.bel.setCell (Nat.le_of_lt hsb) _, h.own.kept (grown_set_atK _ _ _ _) (.inr h.ne), ?_, h.box.setK sb i _ (by omega), h.ne⟩
  have := (h.marks.stored i (.int .i64 (m : Nat))).1
  rw [marksV_set] at this
  exact this
theorem MkM.more {w3 : World} {o : Obj} {v' : Value} {i : Nat} (h : MkM w n sb fcs v6 xs M W)
    (hown : w3.ownsRow (w.heap.size + 1) 3 1 v' (xs.length + 1) (intsV xs ++ [.int .i64 i])) (hg : (W.alloc o).grownBy w3 v6.ownBlock) (hat : v'.ownBlock = v6.ownBlock ∨ v'.ownBlock = some (W.heap.size + 1)) :
    MkM w n sb fcs v' (xs ++ [i]) M w3 := by
  have hsb := (h.marks.lt sb rfl).2
  have hsz := h.bel.size
  refine ⟨(h.bel.alloc hsz o).grown hg (by simp; omega) (fun k hk => by have := (h.own.lt k hk).1; omega), ?_, (h.marks.alloc o).kept hg (.inr (fun e => h.ne e.symm)), ?_, ?_⟩
  · rw [intsV_snoc, List.length_append]; exact hown
  · exact (h.box.next ((Below.refl _ _).alloc (Nat.le_refl _) o)).grownK hg (fun e => by have := (h.own.lt _ e.symm).1; omega)
  · rcases hat with e | e
    · rw [e]; exact h.ne
    · rw [e]; simp; omega
theorem MkM.cut {A : Option Addr} {m cap : Nat} (h : MkM w n sb fcs (.slice A m cap) xs M W) : MkM w n sb fcs (.slice A 0 cap) [] M W := by
  refine ⟨h.bel, ⟨by simp [intsV], ?_⟩, h.marks, h.box, ?_⟩
  · rcases h.own.2 with ⟨e, h0⟩ | ⟨g, c, cur, e, hb, hg, hc, hm, hs, ht⟩
    · left; injection e with e1 e2 e3; subst e1; subst e3; exact ⟨rfl, rfl⟩
    · right; injection e with e1 e2 e3; subst e1; subst e3; exact ⟨g, cap, cur, rfl, hb, hg, Nat.zero_le _, hm, hs, by simp [intsV]⟩
  · intro e; refine h.ne ?_; cases A <;> simp [Value.ownBlock] at e ⊢; exact e
theorem MkM.start (h1 : Below w.heap.size w W) (h2 : W.ownsRow w.heap.size 167 1 (.slice (some ⟨sb, 0, none⟩) (n + 1) (n + 1)) (n + 1) (marksV M (n + 1))) (h3 : Bx W w.heap.size fcs 163) : MkM w n sb fcs (.slice none 0 0) [] M W :=
  ⟨h1, World.ownsRow_nil _ _ _ _, h2, h3, by simp [Value.ownBlock]⟩
end
theorem mk_marksK {w w1 : World} {x0 x1 x2 : Value} {T : TypeId} {m : Nat} (ho : w1.ownsRow w.heap.size 167 1 (.slice (some ⟨(w.alloc (.cells #[x0, x1, x2] T)).heap.size, 0, none⟩) m m) m (madeCells (Value.int .i64 0).cells (m * 1)).toList) (hg : (w.alloc (.cells #[x0, x1, x2] T)).grownBy w1 none) :
    Bx w1 w.heap.size #[x0, x1, x2] T ∧ Below w.heap.size w w1 ∧ w1.ownsRow w.heap.size 167 1 (.slice (some ⟨w.heap.size + 1, 0, none⟩) m m) m (marksV (fun _ => 0) m) := by
  have hs1 : (w.alloc (.cells #[x0, x1, x2] T)).heap.size = w.heap.size + 1 := by simp
  have hbw : Below (w.alloc (.cells #[x0, x1, x2] T)).heap.size (w.alloc (.cells #[x0, x1, x2] T)) w1 := (Below.refl _ _).grown hg (Nat.le_refl _) (fun k h => by cases h)
  refine ⟨(Bx.new w _ T).next hbw, below_box hbw, ?_⟩
  rw [hs1, show (Value.int .i64 0).cells = #[.int .i64 0] from rfl, marksV_made] at ho
  exact ho
def MarkSaid (ps : List Hdr) (goal : Nat) (w : World) (e : Ending) (w' : World) : Prop := ∃ v M, e = .returned v ∧ w'.ownsRow w.heap.size 167 1 v (ps.length + 1) (marksV M (ps.length + 1)) ∧ (∀ j, j ≤ ps.length → (M j = 2 ↔ Leads ps goal j)) ∧ (∀ j, M j ≤ 2) ∧ Below w.heap.size w w'
theorem mark_said {ps : List Hdr} {goal n : Nat} {w W : World} {v : Value} {M : Nat → Nat} (hn : ps.length = n) (ho : W.ownsRow w.heap.size 167 1 v (n + 1) (marksV M (n + 1))) (hp : MkB ps goal M) (hk : ∀ j, j < n → M j ≠ 0) (hb : Below w.heap.size w W) : MarkSaid ps goal w (.returned v) W := by
  subst hn; exact ⟨v, M, rfl, ho, hp.done hk, hp.le, hb⟩
/-- The outer loop. -/
structure MkR (ps : List Hdr) (goal : Nat) (w : World) (n sb : Nat) (fcs : Array Value) (v6 : Value) (xs : List Nat) (M : Nat → Nat) (k : Nat) (wr : World) : Prop where
  len : ps.length = n
  mem : MkM w n sb fcs v6 xs M wr
  pl : MkB ps goal M
  told : ∀ j, j < k → M j ≠ 0
/-- The inner one. -/
structure MkI (ps : List Hdr) (goal : Nat) (w : World) (n sb : Nat) (fcs : Array Value) (v6 : Value) (wl : List Nat) (M : Nat → Nat) (k at' : Nat) (wr : World) : Prop where
  mem : MkM w n sb fcs v6 wl (passOn M wl 1) wr
  way : Way ps k wl at'
  fresh : ∀ x ∈ wl, M x = 0
  ale : at' ≤ n
set_option maxRecDepth 100000 in
set_option maxHeartbeats 8000000 in
theorem marked_any {w : World} {fv : Value} {ps : List Hdr} (h : Fm w fv ps) (goal : Nat) (hgo : goal ≤ ps.length) : Calls Tryz.prog 92 #[fv, .int .i64 goal] w (MarkSaid ps goal w) := by
  obtain ⟨g, cap, rfl, hcap, hg, hx⟩ := fam_box h
  have HF := Lib.hid h
  obtain ⟨_, _, _, h5, h64⟩ := h
  have HS := Lib.hid (MkB.start ps hgo)
  obtain ⟨n, hn⟩ : ∃ n, ps.length = n := ⟨_, rfl⟩
  have HL := Lib.hid hn
  have HN : Hid (∀ w', Below w.heap.size w w' → Calls Tryz.prog 93 #[.agg #[.slice (some ⟨g, 0, none⟩) n cap, .int .i64 5, .map none]] w' fun e w'' => e = .returned (.int .i64 n) ∧ Below w'.heap.size w' w'') := Lib.hid fun w' hb => by rw [← hn]; exact none_any (HF.out.keep (KeepC.below hb))
  have HU : Hid (∀ w' (i : Nat), Below w.heap.size w w' → i < n → Calls Tryz.prog 129 #[.agg #[.slice (some ⟨g, 0, none⟩) n cap, .int .i64 5, .map none], .int .i64 i] w' fun e w'' => e = .returned (.int .i64 (upp ps i)) ∧ Below w'.heap.size w' w'') := Lib.hid fun w' i hb hi => by rw [← hn]; exact up_any (HF.out.keep (KeepC.below hb)) i (by rw [hn]; exact hi)
  rw [hn] at hcap h5 h64 hgo ⊢
  obtain ⟨ib, hib, hb0, hb1, hb2⟩ := info_parts Tryz.infoMark
  clear HF hn hx
  go_enter Tryz.func92, Tryz.ntmps92
  go_wp2_with (at_make; refine wpList_make_full _ rfl (.tmp 13) (.tmp 13) 165 rfl w.heap.size 167 ib (.int .i64 0) 1 Tryz.underlying165 hib hb0 hb1 .i64 .i64 _ _ (n + 1) rfl rfl (by omega) (by omega) (by rw [hb2]; omega) (by unfold maxLen; omega) (by simp) ?_; intro w1 hown1 hgr1; obtain ⟨hX1, hb1, hown1'⟩ := mk_marksK hown1 hgr1; clear hown1 hgr1; have hown1 := hown1'; clear hown1'; have c0 := hX1.cell 0; have c1 := hX1.cell 1; have c2 := hX1.cell 2)
  refine (HN.out _ hb1).mono ?_
  rintro e w2 ⟨rfl, hb2⟩
  have hM := (MkM.start hb1 hown1 hX1).next hb2
  clear c0 c1 c2 hX1 hown1 hb1 hb2
  have d0 := hM.marks.cellAt n (by omega)
  rw [marksV_at (show n < n + 1 by omega)] at d0
  have d1 := hM.marks.frozenAt n
  have hn1 : (n : Int) < n + 1 := by omega
  have hsb : w.heap.size < w.heap.size + 1 := Nat.lt_succ_self _
  go_upto_region 3 with (fail)
  refine gen_worldK (MkM w n (w.heap.size + 1) #[.slice (some ⟨g, 0, none⟩) n cap, .int .i64 5, .map none] (.slice none 0 0) [] (fun k => if k = n then 1 else 0)) (hM.set hsb n 1) ?_
  clear d0 d1 hM
  intro W2 hM
  have hgo1 : (goal : Int) < n + 1 := by omega
  have d0 := hM.marks.cellAt goal (by omega)
  rw [marksV_at (show goal < n + 1 by omega)] at d0
  have d1 := hM.marks.frozenAt goal
  go_upto_region 5 with (fail)
  refine gen_worldK (MkM w n (w.heap.size + 1) #[.slice (some ⟨g, 0, none⟩) n cap, .int .i64 5, .map none] (.slice none 0 0) [] (fun k => if k = goal then 2 else if k = n then 1 else 0)) (hM.set hsb goal 2) ?_
  clear d0 d1 hM
  intro W3 hM
  have c0 := hM.box.cell 0
  have HS2 : Hid (MkB ps goal (fun k => if k = goal then 2 else if k = n then 1 else 0)) := Lib.hid (by have := HS.out; rw [HL.out] at this; exact this)
  have HM := Lib.hid hM
  clear HS hM hsb
  go_wp2_with fail
  go_loopw [6, 25] (fun v6 v25 wr => ∃ (k : Nat) (xs : List Nat) (M : Nat → Nat), v25 = .int .i64 k ∧ k ≤ n ∧ MkR ps goal w n (w.heap.size + 1) #[.slice (some ⟨g, 0, none⟩) n cap, .int .i64 5, .map none] v6 xs M k wr) (fun v6 v25 wr => n - (intOf v25).toNat)
  case atStart => exact ⟨0, [], _, rfl, Nat.zero_le _, ⟨HL.out, HM.out, HS2.out, fun j h => by omega⟩⟩
  case round =>
    obtain ⟨k, xs, M, rfl, hk, hR⟩ := hrel
    clear c0 HM HS2
    by_cases hlt : k < n
    · obtain ⟨A6, cap6, rfl, hc6⟩ := own_form hR.mem.own
      have HC := Lib.hid hR.mem.cut
      have HB := Lib.hid hR.pl
      have HT := Lib.hid hR.told
      clear hR
      go_wp2_with fail
      go_loopw [6, 7] (fun v6 v7 wr => ∃ (wl : List Nat) (at' : Nat), v7 = .int .i64 at' ∧ MkI ps goal w n (w.heap.size + 1) #[.slice (some ⟨g, 0, none⟩) n cap, .int .i64 5, .map none] v6 wl M k at' wr) (fun v6 v7 wr => n - lenOf v6)
      case atStart => exact ⟨[], k, rfl, ⟨by rw [passOn_nil]; exact HC.out, Way.nil _ _, by simp, by omega⟩⟩
      case round =>
        obtain ⟨wl, at', rfl, hI⟩ := hrel
        clear HC
        have hale := hI.ale
        have d0 := hI.mem.marks.cellAt at' (by omega)
        rw [marksV_at (show at' < n + 1 by omega)] at d0
        have d1 := hI.mem.marks.frozenAt at'
        have hn2 : (at' : Int) < n + 1 := by omega
        have hle : passOn M wl 1 at' ≤ 2 := by unfold passOn; split; omega; exact HB.out.le _
        have h3 : passOn M wl 1 at' = 0 ∨ passOn M wl 1 at' = 1 ∨ passOn M wl 1 at' = 2 := by omega
        clear hle
        rcases h3 with h3 | h3 | h3
        · rw [h3] at d0
          replace d0 : wr.cell? ⟨w.heap.size + 1, at', none⟩ = some (.int .i64 0) := d0
          have hM0 : at' ∉ wl ∧ M at' = 0 := by
            unfold passOn at h3; split at h3
            · omega
            · rename_i hm; exact ⟨hm, h3⟩
          have hi1 : at' < n := by
            rcases Nat.lt_or_ge at' n with h | h
            · exact h
            · have e : at' = ps.length := by have := HL.out; omega
              have := HB.out.nn; rw [← e] at this; exact absurd hM0.2 this
          have hA := Lib.hid (hI.mem.set (Nat.lt_succ_self _) at' 1)
          rw [passOn_snoc] at hA
          have hway := Lib.hid (hI.way.step (by rw [HL.out]; exact hi1) hM0.1)
          have hfr : Hid (∀ x ∈ wl ++ [at'], M x = 0) := Lib.hid (fun x hx => by
            rcases List.mem_append.1 hx with h | h
            · exact hI.fresh x h
            · rw [List.mem_singleton.1 h]; exact hM0.2)
          have hup := Lib.hid (upp_le ps at')
          have hM := Lib.hid (own_lenOf hI.mem.own)
          have hl64 : wl.length ≤ 64 := by have := hI.way.len; rw [HL.out] at this; omega
          have hl64' : (wl ++ [at']).length ≤ n := by have := hway.out.len; rw [HL.out] at this; exact this
          clear h3 hM0 hI
          go_upto_region 12 with (fail)
          refine gen_worldK (MkM w n (w.heap.size + 1) #[.slice (some ⟨g, 0, none⟩) n cap, .int .i64 5, .map none] u6 wl (passOn M (wl ++ [at']) 1)) hA.out ?_
          clear hA d0 d1
          intro W hA
          obtain ⟨ii, hii, hiz, his, hib⟩ := info_parts Tryz.infoIntK
          have hsz := hA.bel.size
          go_wp2_with (at_builtin; refine wpList_append_own_at _ rfl (.tmp 41) (.tmp 43) 32 rfl (w.heap.size + 1) 3 ii _ 1 8 Tryz.underlying32 hii hiz his hib rfl (by decide) u6 wl.length (intsV wl) rfl (hA.own.alloc _) ⟨W.heap.size, 0, none⟩ 1 1 [.int .i64 at'] rfl rfl (cell_one_newK _ _ _) ?c1 ?c2 ?c3 ?c4 ?_)
          case c1 => intro u hu; simp at hu; subst hu; rfl
          case c2 => unfold maxLen; omega
          case c3 => omega
          case c4 => simp; omega
          intro v' w3 hown3 hgrow _ hat
          have hN := hA.more hown3 hgrow hat
          clear hown3 hgrow hat hA
          have c0 := hN.box.cell 0
          have c1 := hN.box.cell 1
          have c2 := hN.box.cell 2
          have f1 := hN.bel
          go_wp2_with (go_at_call 129; refine (HU.out _ at' f1 hi1).mono ?_; rintro e w4 ⟨rfl, hb4⟩)
          go_roundw
          case rel => exact ⟨wl ++ [at'], upp ps at', rfl, ⟨hN.next hb4, hway.out, hfr.out, by rw [← HL.out]; exact hup.out⟩⟩
          case measure => rw [hM.out, own_lenOf hN.own]; simp; simp at hl64'; omega
        · rw [h3] at d0
          replace d0 : wr.cell? ⟨w.heap.size + 1, at', none⟩ = some (.int .i64 1) := d0
          have hpl := Lib.hid (HB.out.pass hI.way hI.fresh (by rw [HL.out]; exact hale) h3)
          have htl : Hid (∀ j, j < k + 1 → passOn M wl 1 j ≠ 0) := Lib.hid (fun j hj => by
            by_cases e : j = k
            · rw [e]; exact pass_own hI.way (by rw [h3]; decide) (by decide)
            · exact pass_keep (by decide) (HT.out j (by omega)))
          have HI := Lib.hid hI
          clear h3 hI
          go_wp2_with fail
          go_roundw
          case rel => exact ⟨k + 1, wl, _, by simp, by omega, ⟨HL.out, HI.out.mem, hpl.out, htl.out⟩⟩
          case measure => simp [intOf]; omega
        · rw [h3] at d0
          replace d0 : wr.cell? ⟨w.heap.size + 1, at', none⟩ = some (.int .i64 2) := d0
          have hpl := Lib.hid (HB.out.lead hI.way hI.fresh (by rw [HL.out]; exact hale) h3)
          have htl : Hid (∀ j, j < k + 1 → passOn M wl 2 j ≠ 0) := Lib.hid (fun j hj => by
            by_cases e : j = k
            · rw [e]; exact pass_own hI.way (by rw [h3]; decide) (by decide)
            · exact pass_keep (by decide) (HT.out j (by omega)))
          have hwn : Hid (∀ x ∈ wl, x < n) := Lib.hid (fun x hx => by have := hI.way.lt x hx; rw [HL.out] at this; exact this)
          obtain ⟨A7, cap7, rfl, hc7⟩ := own_form hI.mem.own
          have hl64 : wl.length ≤ 64 := by have := hI.way.len; rw [HL.out] at this; omega
          obtain ⟨wn, hwl⟩ : ∃ wn, wl.length = wn := ⟨_, rfl⟩
          have HWL := Lib.hid hwl
          have HI := Lib.hid hI.mem
          rw [hwl] at hc7 hl64 HI ⊢
          clear h3 hI hwl
          go_wp2_with fail
          go_loopw [52] (fun v52 wr => ∃ t : Nat, v52 = .int .i64 t ∧ t ≤ wn ∧ MkM w n (w.heap.size + 1) #[.slice (some ⟨g, 0, none⟩) n cap, .int .i64 5, .map none] (.slice A7 wn cap7) wl (passOn (passOn M wl 1) (wl.take t) 2) wr) (fun v52 wr => wn - (intOf v52).toNat)
          case atStart => exact ⟨0, rfl, Nat.zero_le _, by rw [List.take_zero, passOn_nil]; exact HI.out⟩
          case round =>
            obtain ⟨t, rfl, ht, hT⟩ := hrel
            clear HI d0 d1
            by_cases htt : t < wn
            · obtain ⟨x, hxt⟩ : ∃ x, wl[t]? = some x := ⟨wl[t]'(by rw [HWL.out]; exact htt), List.getElem?_eq_getElem _⟩
              have hxn := hwn.out x (List.mem_of_getElem? hxt)
              obtain ⟨gw, rfl⟩ : ∃ gw, A7 = some ⟨gw, 0, none⟩ := by
                rcases hT.own.2 with ⟨_, e⟩ | ⟨gw, cap', cur, e, _⟩
                · have := HWL.out; omega
                · injection e with e _ _; exact ⟨gw, e⟩
              have e0 : wr.cell? ⟨gw, t, none⟩ = some (.int .i64 x) := by
                have hO := hT.own
                rw [HWL.out] at hO
                rw [hO.cellAt t (by omega)]; exact intsV_at hxt
              have d0 := hT.marks.cellAt x (by omega)
              rw [marksV_at (show x < n + 1 by omega)] at d0
              have d1 := hT.marks.frozenAt x
              have hn3 : (x : Int) < n + 1 := by omega
              have hA := Lib.hid (hT.set (Nat.lt_succ_self _) x 2)
              have HO := Lib.hid (over_step (passOn M wl 1) wl t x hxt)
              clear hT hxt
              go_wp2_with fail
              go_roundw
              case rel => exact ⟨t + 1, by simp, by omega, by rw [← HO.out]; exact hA.out⟩
              case measure => simp [intOf]; omega
            · have HK : Hid (wl.take t = wl) := Lib.hid (List.take_of_length_le (by rw [HWL.out]; omega))
              rw [HK.out, passOn_over] at hT
              have HT2 := Lib.hid hT
              clear hT
              go_wp2_with fail
              go_roundw
              case rel => exact ⟨k + 1, wl, _, by simp, by omega, ⟨HL.out, HT2.out, hpl.out, htl.out⟩⟩
              case measure => simp [intOf]; omega
    · have HR := Lib.hid hR
      have HK : Hid (k = n) := Lib.hid (by omega)
      clear hR
      go_wp2_with fail
      go_ret
      exact mark_said HL.out HR.out.mem.marks HR.out.pl (by have := HR.out.told; rw [HK.out] at this; exact this) HR.out.mem.bel
end Go.Proofs.YteogphbdpjnjoaaGreat
