/- Parts of the proof: ClA, ClB, ClC, ClD, ClE, ClF. -/
import Derived.Test.YtipcoglddfgopaaGreatDoorP29
import Derived.Deep.Cut
import Derived.Deep.AppendLies
set_option maxHeartbeats 4000000
set_option maxRecDepth 100000
namespace Go.Proofs.YtipcoglddfgopaaGreatDoor
set_option linter.unusedSimpArgs false
set_option linter.unusedVariables false
section
open Go.RowKit
def pcells (x : Pm) : List Value := [.string x.1, .string x.2]
def OwnP (B : Nat) (w : World) (v : Value) (l : List Pm) : Prop := w.ownsRow B 108 2 v l.length (l.flatMap pcells) ∧ (∀ x ∈ l, x.1.size ≤ maxLen ∧ x.2.size ≤ maxLen) ∧ l.length ≤ 2000000
theorem OwnP.nil (B : Nat) (w : World) : OwnP B w (.slice none 0 0) [] := ⟨World.ownsRow_nil _ _ _ _, by simp, by simp⟩
theorem OwnP.form {B : Nat} {w : World} {v : Value} {l : List Pm} (h : OwnP B w v l) : ∃ A cap, v = .slice A l.length cap := by obtain ⟨A, cap, e, _⟩ := own_form h.1; exact ⟨A, cap, e⟩
theorem OwnP.lt {B : Nat} {w : World} {v : Value} {l : List Pm} (h : OwnP B w v l) : ∀ k, v.ownBlock = some k → B ≤ k ∧ k < w.heap.size := h.1.lt
theorem OwnP.grown {B c : Nat} {w w' : World} {v : Value} {l : List Pm} (h : OwnP B w v l) (hg : w.grownBy w' (some c)) (hc : c < B) : OwnP B w' v l :=
 ⟨h.1.kept hg (by
   cases hv' : v.ownBlock with
   | none => exact .inl rfl
   | some k => exact .inr (by have := (h.lt k hv').1; simp; omega)), h.2.1, h.2.2⟩
theorem OwnP.below {B : Nat} {w w' : World} {v : Value} {l : List Pm} (h : OwnP B w v l) (hb : Below w.heap.size w w') : OwnP B w' v l := ⟨own_next h.1 hb, h.2.1, h.2.2⟩
theorem OwnP.mono {B C : Nat} {w : World} {v : Value} {l : List Pm} (h : OwnP B w v l) (hC : C ≤ B) : OwnP C w v l := ⟨own_base h.1 hC, h.2.1, h.2.2⟩
theorem pflat_get : ∀ (l : List Pm) (i j : Nat) (x : Pm), l[i]? = some x → j < 2 → (l.flatMap pcells)[i * 2 + j]? = (pcells x)[j]?
 | [], i, j, x, h, _ => by simp at h
 | y :: l, 0, j, x, h, hj => by
   simp only [List.getElem?_cons_zero, Option.some.injEq] at h
   subst h
   simp only [List.flatMap_cons, Nat.zero_mul, Nat.zero_add]
   rw [List.getElem?_append_left (by simpa [pcells] using hj)]
 | y :: l, i + 1, j, x, h, hj => by
   simp only [List.getElem?_cons_succ] at h
   have := pflat_get l i j x h hj
   simp only [List.flatMap_cons]
   rw [List.getElem?_append_right (by simp [pcells]; omega), ← this]
   congr 1
   simp [pcells]; omega
theorem OwnP.fk {B : Nat} {w : World} {v : Value} {l : List Pm} (h : OwnP B w v l) : FkP B w v l := by
 obtain ⟨ho, hs, hm⟩ := h
 intro ws hws
 obtain ⟨A, cap, rfl, hc⟩ := own_form ho
 refine ⟨A, cap, rfl, by unfold maxLen; omega, hs, fun hn => ?_⟩
 obtain ⟨g, cap', hv, hg, hl, hat⟩ := own_row ho hn
 injection hv with h1 h2 h3
 refine ⟨g, 0, h1, fun i x hx => ⟨?_, ?_⟩⟩
 · have := (hat (i * 2 + 0) (.string x.1) (by rw [pflat_get l i 0 x hx (by omega)]; rfl)).1
   rw [Nat.zero_add]
   exact hws g _ _ hg this
 · have := (hat (i * 2 + 1) (.string x.2) (by rw [pflat_get l i 1 x hx (by omega)]; rfl)).1
   rw [Nat.zero_add]
   exact hws g _ _ hg this
theorem pm_one (l : List Pm) : ∀ u ∈ l.flatMap pcells, u.oneCell' = true := by
 intro u hu
 rw [List.mem_flatMap] at hu
 obtain ⟨x, hx, hu⟩ := hu
 simp only [pcells, List.mem_cons, List.not_mem_nil, or_false] at hu
 rcases hu with rfl | rfl <;> rfl
theorem OwnP.one {B : Nat} {W : World} {x : Pm} (hx : x.1.size ≤ maxLen ∧ x.2.size ≤ maxLen) (hB : B ≤ W.heap.size) : OwnP B (W.alloc (.cells #[.string x.1, .string x.2] 108)) (.slice (some ⟨W.heap.size, 0, none⟩) 1 1) [x] := by
 have hl := World.ownsRow_lit (base := B) (e := 108) (size := 2) W #[.string x.1, .string x.2] 1 hB (by unfold maxLen; omega) (by simp)
 exact ⟨by simpa [pcells] using hl, by simpa using hx, by simp⟩
theorem OwnP.app {B B2 : Nat} {w w' : World} {v v2 v' : Value} {xs ys : List Pm} (h : OwnP B w v xs) (h2 : OwnP B2 w v2 ys) (ho : w'.ownsRow B 108 2 v' (xs.length + ys.length) (xs.flatMap pcells ++ ys.flatMap pcells)) (hm : xs.length + ys.length ≤ 2000000) : OwnP B w' v' (xs ++ ys) :=
 ⟨by simpa using ho, fun y hy => by
   rcases List.mem_append.1 hy with hy | hy
   · exact h.2.1 y hy
   · exact h2.2.1 y hy, by simpa using hm⟩
theorem parV_len (s : RS) : (parV s).1.1.size ≤ maxLen ∧ (parV s).1.2.size ≤ maxLen := ⟨typ_len s, name_len s.typ⟩
def PrC (W0 : World) (c : Nat) (w : World) (r : Pm × RS) (e : Ending) (w' : World) : Prop := e = .returned (.agg #[.string r.1.1, .string r.1.2]) ∧ Mv W0 c r.2 w w'
def PsC (W0 : World) (c : Nat) (w : World) (r : List Pm × RS) (e : Ending) (w' : World) : Prop := ∃ v, e = .returned v ∧ OwnP w.heap.size w' v r.1 ∧ Mv W0 c r.2 w w'
def PrAny : Prop := ∀ (W0 w : World) (c : Nat) (s : RS), Rd W0 c s w → Calls Tryz.prog 116 #[.pointer (some ⟨c, 0, none⟩)] w (PrC W0 c w (parV s))
theorem param_any : PrAny := by
 intro W0 w c s h
 have hlt := h.lt
 have hle0 := h.le
 obtain ⟨W1, hW1⟩ : ∃ W1, w.alloc (.cells #[.string ⟨#[]⟩, .string ⟨#[]⟩] 108) = W1 := ⟨_, rfl⟩
 have hb : Below w.heap.size w W1 := by rw [← hW1]; exact (Below.refl _ w).alloc (Nat.le_refl _) _
 have hx : Bx W1 w.heap.size #[.string ⟨#[]⟩, .string ⟨#[]⟩] 108 := by rw [← hW1]; exact Bx.new _ _ _
 have hz : W1.heap.size = w.heap.size + 1 := by rw [← hW1]; simp
 have HM := Lib.hid (Mv.below hb h)
 have HB := Lib.hid hx
 clear hb hx
 have HT : Hid (∀ w', Rd W0 c (s) w' → Calls Tryz.prog 66 #[.pointer (some ⟨c, 0, none⟩)] w' fun e w'' => e = .returned (.string s.typV) ∧ Mv W0 c (s.typ) w' w'') := by
   show ∀ w', _
   intro w' h'; exact type_any W0 w' c _ h'
 have HNM : Hid (∀ w', Rd W0 c (s.typ) w' → Calls Tryz.prog 65 #[.pointer (some ⟨c, 0, none⟩)] w' fun e w'' => e = .returned (.string s.typ.nameV) ∧ Mv W0 c (s.typ.name) w' w'') := by
   show ∀ w', _
   intro w' h'; exact nameR_any W0 w' c _ h'
 obtain ⟨t, ht⟩ : ∃ t, s.typV = t := ⟨_, rfl⟩
 obtain ⟨n, hn⟩ : ∃ n, s.typ.nameV = n := ⟨_, rfl⟩
 obtain ⟨s2, hs2⟩ : ∃ s2, s.typ.name = s2 := ⟨_, rfl⟩
 have hR : parV s = ((t, n), s2) := by rw [← ht, ← hn, ← hs2]; rfl
 rw [ht] at HT
 rw [hn, hs2] at HNM
 rw [hR]
 clear hR ht hn hs2 h
 go_enter Tryz.func116, Tryz.ntmps116
 go_wp2_with fail
 refine (HT.out _ HM.out.2).mono ?_
 clear HT hW1
 rintro e w2 ⟨rfl, hm⟩
 replace HM := Lib.hid (HM.out.trans hm)
 replace HB := Lib.hid (Bx.grown HB.out hm.1 (by omega))
 have hs2 := hm.1.size
 clear hm
 go_wp2_with fail
 refine (HNM.out _ HM.out.2).mono ?_
 clear HNM
 rintro e w3 ⟨rfl, hm⟩
 replace HM := Lib.hid (HM.out.trans hm)
 replace HB := Lib.hid (Bx.grown HB.out hm.1 (by omega))
 have hs3 := hm.1.size
 clear hm
 obtain ⟨r0, r1⟩ := HB.out.all_2
 have g0 := HB.out.fro 0; have g1 := HB.out.fro 1
 have HG := Lib.hid (grown_2 w3 w.heap.size (.string t) (.string n))
 go_wp2_with fail
 obtain ⟨z0, z1⟩ := (HB.out.to_2 (.string t) (.string n)).all_2
 (try simp only [Exit.inBlock, Exit.then])
 refine bodyPost_ret (v := .agg #[.string t, .string n]) (by simp [results, Tryz.results116, go_sem, z0, z1]) rfl ?_
 exact ⟨rfl, Mv.over (Below.refl _ _) HM.out HG.out (Nat.le_refl _) hlt⟩
theorem listedP_any (HP : PrAny) (W0 w : World) (c : Nat) (s : RS) (h : Rd W0 c s w) : Calls Tryz.prog 115 #[.pointer (some ⟨c, 0, none⟩), .func (.func 116) #[] #[]] w (PsC W0 c w (lstP s)) := by
 have hlt := h.lt
 have hle0 := h.le
 have HS := Lib.hid (sees_any W0 w c s sShut h)
 cases hsee : s.sees 0 sShut with
 | true =>
   have hR : lstP s = ([], s) := by simp only [lstP, hsee, if_true]
   rw [hsee] at HS
   have HM := Lib.hid (Mv.refl h)
   rw [hR]
   clear hR hsee h HP
   go_enter Tryz.func115, Tryz.ntmps115
   go_wp2_with fail
   refine HS.out.mono ?_
   clear HS
   rintro e w1 ⟨rfl, rfl⟩
   go_wp2_with fail
   go_ret
   exact ⟨_, rfl, OwnP.nil _ _, HM.out⟩
 | false =>
   obtain ⟨r, hr⟩ : ∃ r, parV s = r := ⟨_, rfl⟩
   obtain ⟨R, hR⟩ : ∃ R, moreP (s.len + 1) [r.1] r.2 = R := ⟨_, rfl⟩
   have hRR : lstP s = R := by simp only [lstP, hsee, hr, hR]; simp
   have hl1 : r.2.len ≤ s.len - 1 := by rw [← hr]; exact len_parV s
   have hz : r.1.1.size ≤ maxLen ∧ r.1.2.size ≤ maxLen := by rw [← hr]; exact parV_len s
   have hfew := h.few
   have HX := Lib.hid (HP W0 w c s h)
   rw [hr] at HX
   rw [hsee] at HS
   rw [hRR]
   have HIH := Lib.hid HP
   have HR := Lib.hid hR
   obtain ⟨sl, hsl⟩ : ∃ sl, s.len = sl := ⟨_, rfl⟩
   rw [hsl] at HR hl1 hfew
   obtain ⟨⟨p1, p2⟩, s1⟩ := r
   simp only at HR hl1 hz
   obtain ⟨i0, hi, hz0, hz1, hz2⟩ := info_parts Tryz.infoPm
   clear hr hR hRR h HP hsee hsl
   go_enter Tryz.func115, Tryz.ntmps115
   go_wp2_with fail
   refine HS.out.mono ?_
   clear HS
   rintro e w1 ⟨rfl, rfl⟩
   go_wp2_with fail
   refine HX.out.mono ?_
   clear HX
   rintro e w2 ⟨rfl, hm⟩
   have HO := Lib.hid (OwnP.one (x := (p1, p2)) hz (show w.heap.size ≤ w2.heap.size from hm.1.size))
   have HM2 := Lib.hid (hm.trans (Mv.below ((Below.refl _ w2).alloc (Nat.le_refl _) (.cells #[.string p1, .string p2] 108)) hm.2))
   clear hm
   go_wp2_with fail
   go_loopw [5] (fun v5 wr => ∃ (m : Nat) (acc : List Pm) (s' : RS), moreP m acc s' = R ∧ s'.len < m ∧ OwnP w.heap.size wr v5 acc ∧ acc.length + s'.len ≤ 1000001 ∧ Mv W0 c s' w wr) (fun v5 wr => lenAt wr c)
   case atStart => exact ⟨sl + 1, _, s1, HR.out, by omega, HO.out, by simp; omega, HM2.out⟩
   case round =>
     obtain ⟨m, acc, s', hrun, hen, ho, hbd, hm⟩ := hrel
     obtain ⟨m, rfl⟩ : ∃ m', m = m' + 1 := ⟨m - 1, by omega⟩
     have hla := lenAt_of hm.2
     cases hsee : s'.sees 0 sComma with
     | false =>
       have HT := Lib.hid (take_false W0 wr c s' sComma hm.2 hsee)
       have hR : moreP (m + 1) acc s' = (acc, s') := by simp only [moreP, hsee]; simp
       rw [hR] at hrun
       have HM3 := Lib.hid hm
       have HO3 := Lib.hid ho
       subst hrun
       obtain ⟨A3, cap3, rfl⟩ := ho.form
       clear hR hsee hm ho hla hen hbd
       go_wp2_with fail
       refine HT.out.mono ?_
       clear HT
       rintro e w5 ⟨rfl, rfl⟩
       go_wp2_with fail
       go_ret
       exact ⟨_, rfl, HO3.out, HM3.out⟩
     | true =>
       have HT := Lib.hid (take_true W0 wr c s' sComma hm.2 hsee)
       obtain ⟨q, hq⟩ : ∃ q, parV s'.skip = q := ⟨_, rfl⟩
       have hR : moreP (m + 1) acc s' = moreP m (acc ++ [q.1]) q.2 := by simp only [moreP, hsee, hq]; simp
       rw [hR] at hrun
       have h1 := sees_len hsee
       have h2 := len_skip s'
       have h3 : q.2.len ≤ s'.skip.len - 1 := by rw [← hq]; exact len_parV _
       have hz : q.1.1.size ≤ maxLen ∧ q.1.2.size ≤ maxLen := by rw [← hq]; exact parV_len _
       have HX : Hid (∀ w', Rd W0 c s'.skip w' → Calls Tryz.prog 116 #[.pointer (some ⟨c, 0, none⟩)] w' (PrC W0 c w' q)) := by
         show ∀ w', _
         intro w' h'; have := HIH.out W0 w' c _ h'; rw [hq] at this; exact this
       have HM3 := Lib.hid hm
       have HO3 := Lib.hid ho
       have HRUN := Lib.hid hrun
       obtain ⟨A3, cap3, rfl⟩ := ho.form
       obtain ⟨⟨q1, q2⟩, s2⟩ := q
       simp only at hz h3
       clear hR hsee hm ho hrun hq
       go_wp2_with fail
       refine HT.out.mono ?_
       clear HT
       rintro e w5 ⟨rfl, hm⟩
       have HM4 := Lib.hid hm
       clear hm
       go_wp2_with fail
       refine (HX.out _ HM4.out.2).mono ?_
       clear HX
       rintro e w6 ⟨rfl, hm⟩
       have hsz : w.heap.size ≤ wr.heap.size := HM3.out.1.size
       have hsz4 := HM4.out.1.size
       have hsz6 := hm.1.size
       have hba : Below w6.heap.size w6 (w6.alloc (.cells #[.string q1, .string q2] 108)) := (Below.refl _ _).alloc (Nat.le_refl _) _
       have HY := Lib.hid (OwnP.one (x := (q1, q2)) hz (show wr.heap.size ≤ w6.heap.size by omega))
       have HO5 := Lib.hid (((HO3.out.grown HM4.out.1 hlt).grown hm.1 hlt).below hba)
       have HMT := Lib.hid (HM3.out.trans (HM4.out.trans (hm.trans (Mv.below hba hm.2))))
       have hwz : w.heap.size ≤ (w6.alloc (.cells #[.string q1, .string q2] 108)).heap.size := Nat.le_trans (by omega) hba.size
       have HOL := HO3.out.lt
       clear hm hba
       go_wp2_with (at_builtin; refine append_any rfl (.tmp 14) (.tmp 18) 49 rfl w.heap.size 108 i0 _ 2 32 Tryz.underlying49 hi hz0 hz1 hz2 rfl (by decide) _ _ _ rfl HO5.out.1 wr.heap.size _ _ _ rfl HY.out.1 (pm_one _) ?c3 ?c4 hwz ?_)
       case c3 => unfold maxLen; simp; omega
       case c4 => simp; omega
       intro v2 w7 hown2 hgrow hat
       have HN := Lib.hid (OwnP.app HO5.out HY.out hown2 (by simp; omega))
       have HM7 := Lib.hid (Mv.row HMT.out hgrow (fun k hk => Nat.ne_of_gt (Nat.lt_of_lt_of_le hlt (HOL k hk).1)) (fun k hk => (HOL k hk).1) hlt)
       clear hown2 hgrow hat
       go_wp2_with fail
       go_roundw
       case rel => exact ⟨m, _, s2, HRUN.out, by omega, HN.out, by simp; omega, HM7.out⟩
       case measure => rw [hla, lenAt_of HM7.out.2]; omega
theorem params_any (W0 w : World) (c : Nat) (s : RS) (h : Rd W0 c s w) : Calls Tryz.prog 94 #[.pointer (some ⟨c, 0, none⟩)] w (PsC W0 c w (parP s)) := by
 obtain ⟨q, hq⟩ : ∃ q, lstP (s.need sOpen) = q := ⟨_, rfl⟩
 have hR : parP s = (q.1, q.2.need sShut) := by rw [← hq]; rfl
 have hlt := h.lt
 have hle0 := h.le
 have HN0 : Hid (∀ w', Rd W0 c (s) w' → Calls Tryz.prog 36 #[.pointer (some ⟨c, 0, none⟩), .string sOpen] w' fun e w'' => e = .returned (.tuple #[]) ∧ Mv W0 c (RS.need (s) sOpen) w' w'') := by
   show ∀ w', _
   intro w' h'; exact need_any W0 w' c _ sOpen h'
 have HX : Hid (∀ w', Rd W0 c (s.need sOpen) w' → Calls Tryz.prog 115 #[.pointer (some ⟨c, 0, none⟩), .func (.func 116) #[] #[]] w' (PsC W0 c w' q)) := by
   show ∀ w', _
   intro w' h'; have := listedP_any param_any W0 w' c _ h'; rw [hq] at this; exact this
 have HN : Hid (∀ w', Rd W0 c (q.2) w' → Calls Tryz.prog 36 #[.pointer (some ⟨c, 0, none⟩), .string sShut] w' fun e w'' => e = .returned (.tuple #[]) ∧ Mv W0 c (RS.need (q.2) sShut) w' w'') := by
   show ∀ w', _
   intro w' h'; exact need_any W0 w' c _ sShut h'
 rw [hR]
 have HM := Lib.hid (Mv.refl h)
 clear hR hq h
 go_enter Tryz.func94, Tryz.ntmps94
 go_wp2_with fail
 refine (HN0.out _ HM.out.2).mono ?_
 clear HN0
 rintro e w1 ⟨rfl, hm⟩
 replace HM := Lib.hid (HM.out.trans hm)
 have hs1 := hm.1.size
 clear hm
 go_wp2_with fail
 refine (HX.out _ HM.out.2).mono ?_
 clear HX
 rintro e w2 ⟨v, rfl, ho, hm⟩
 obtain ⟨A, cap, rfl⟩ := ho.form
 have HO := Lib.hid (ho.mono (show w.heap.size ≤ _ by omega))
 replace HM := Lib.hid (HM.out.trans hm)
 clear hm ho
 go_wp2_with fail
 refine (HN.out _ HM.out.2).mono ?_
 clear HN
 rintro e w3 ⟨rfl, hm⟩
 replace HM := Lib.hid (HM.out.trans hm)
 replace HO := Lib.hid (HO.out.grown hm.1 hlt)
 clear hm
 go_wp2_with fail
 go_ret
 exact ⟨_, rfl, HO.out, HM.out⟩
end
section
open Go.RowKit
def MtF (y : Nd) : Prop := ∃ (st ct : Bool) (ty nm : ByteArray) (A1 A2 : Option Addr) (c1 c2 : Nat) (ps : List Pm) (l : List Nd), y = .mt st ct ty nm (.slice A1 ps.length c1) ps (.slice A2 l.length c2) l
def FdF (y : Nd) : Prop := ∃ (st : Bool) (ty nm : ByteArray) (A1 : Option Addr) (c1 : Nat) (l : List Nd), y = .fd st ty nm (.slice A1 l.length c1) l
def MtC (W0 : World) (c : Nat) (w : World) (r : Nd × RS) (e : Ending) (w' : World) : Prop := ∃ y, e = .returned (.agg (cellsN y).toArray) ∧ MtF y ∧ NK .mt w.heap.size none w' r.1 y ∧ Mv W0 c r.2 w w'
def FdC (W0 : World) (c : Nat) (w : World) (r : Nd × RS) (e : Ending) (w' : World) : Prop := ∃ y, e = .returned (.agg (cellsN y).toArray) ∧ FdF y ∧ NK .fd w.heap.size none w' r.1 y ∧ Mv W0 c r.2 w w'
theorem method_any (HE : ExAny) (HAR : ArAny) (W0 w : World) (c : Nat) (s : RS) (st : Bool) (ty nm : ByteArray) (hty : ty.size ≤ maxLen) (hnm : nm.size ≤ maxLen) (hv : Vars W0) (h : Rd W0 c s w) : Calls Tryz.prog 64 #[.pointer (some ⟨c, 0, none⟩), .agg #[.bool st, .bool false, .string ty, .string nm, .slice none 0 0, .slice none 0 0]] w (MtC W0 c w (metM st ty nm s)) := by
 obtain ⟨q, hq⟩ : ∃ q, parP s = q := ⟨_, rfl⟩
 obtain ⟨a, ha⟩ : ∃ a, bd false q.2 = a := ⟨_, rfl⟩
 have HRE : Hid (metM st ty nm s = (mkM st false ty nm q.1 a.1, a.2)) := Lib.hid (by simp only [metM, hq, ha])
 obtain ⟨RR, hRR⟩ : ∃ RR, metM st ty nm s = RR := ⟨_, rfl⟩
 rw [hRR] at HRE ⊢
 have hlt := h.lt
 have hle0 := h.le
 obtain ⟨W1, hW1⟩ : ∃ W1, (w.alloc (.cells #[.bool st, .bool false, .string ty, .string nm, .slice none 0 0, .slice none 0 0] 52)).alloc (.cells #[.bool false, .bool false, .string ⟨#[]⟩, .string ⟨#[]⟩, .slice none 0 0, .slice none 0 0] 52) = W1 := ⟨_, rfl⟩
 have hb : Below w.heap.size w W1 := by rw [← hW1]; exact ((Below.refl _ w).alloc (Nat.le_refl _) _).alloc (by simp) _
 have hx1 : Bx W1 w.heap.size #[.bool st, .bool false, .string ty, .string nm, .slice none 0 0, .slice none 0 0] 52 := by rw [← hW1]; exact (Bx.new _ _ _).next ((Below.refl _ _).alloc (Nat.le_refl _) _)
 have hx2 : Bx W1 (w.heap.size + 1) #[.bool false, .bool false, .string ⟨#[]⟩, .string ⟨#[]⟩, .slice none 0 0, .slice none 0 0] 52 := by
   rw [← hW1]
   have := Bx.new (w.alloc (.cells #[.bool st, .bool false, .string ty, .string nm, .slice none 0 0, .slice none 0 0] 52)) #[.bool false, .bool false, .string ⟨#[]⟩, .string ⟨#[]⟩, .slice none 0 0, .slice none 0 0] 52
   simpa using this
 have hz : W1.heap.size = w.heap.size + 2 := by rw [← hW1]; simp
 have HM := Lib.hid (Mv.below hb h)
 have HB := Lib.hid hx2
 have HL := Lib.hid hx1
 clear hb hx1 hx2
 have HC : Hid (∀ w', Rd W0 c s w' → Calls Tryz.prog 94 #[.pointer (some ⟨c, 0, none⟩)] w' (PsC W0 c w' q)) := by
   show ∀ w', _
   intro w' h'; have := params_any W0 w' c _ h'; rw [hq] at this; exact this
 have HA : Hid (∀ w', Rd W0 c (q.2) w' → Calls Tryz.prog 96 #[.pointer (some ⟨c, 0, none⟩)] w' (BlC W0 c w' a)) := by
   show ∀ w', _
   intro w' h'; have := bk_any HE HAR W0 w' c _ hv h'; rw [ha] at this; exact this
 clear hRR hq ha h hv HE HAR
 go_enter Tryz.func64, Tryz.ntmps64
 go_wp2_with fail
 refine (HC.out _ HM.out.2).mono ?_
 clear HC hW1
 rintro e w2 ⟨v, rfl, ho, hm⟩
 obtain ⟨A1, c1, rfl⟩ := ho.form
 have HP := Lib.hid (ho.fk.mono (show w.heap.size + 2 ≤ _ by omega))
 replace HM := Lib.hid (HM.out.trans hm)
 replace HB := Lib.hid (Bx.grown HB.out hm.1 (by omega))
 replace HL := Lib.hid (Bx.grown HL.out hm.1 (by omega))
 have hs2 := hm.1.size
 clear hm ho
 go_wp2_with fail
 refine (HA.out _ HM.out.2).mono ?_
 clear HA
 rintro e w3 ⟨v2, ys, rfl, ho, hq2, hm⟩
 obtain ⟨A2, c2, rfl⟩ := fk_len ho
 have HF := Lib.hid (ho.mono (show w.heap.size + 2 ≤ _ by omega))
 have HQ := Lib.hid hq2
 replace HM := Lib.hid (HM.out.trans hm)
 replace HB := Lib.hid (Bx.grown HB.out hm.1 (by omega))
 replace HL := Lib.hid (Bx.grown HL.out hm.1 (by omega))
 have hs3 := hm.1.size
 replace HP := Lib.hid (HP.out.grown hm.1 (by omega))
 clear hm ho hq2
 obtain ⟨x0, x1, x2, x3, x4, x5⟩ := HL.out.all_6
 have gx4 := HL.out.fro 4; have gx5 := HL.out.fro 5
 obtain ⟨W4, hW4⟩ : ∃ W, (w3.setCell ⟨w.heap.size, 4, none⟩ (.slice A1 q.1.length c1)).setCell ⟨w.heap.size, 5, none⟩ (.slice A2 ys.length c2) = W := ⟨_, rfl⟩
 have hg : w3.grownBy W4 (some w.heap.size) := by rw [← hW4]; exact (grown_set_at _ _ _ _).trans (grown_set_at _ _ _ _)
 have hl2 : Bx W4 w.heap.size #[.bool st, .bool false, .string ty, .string nm, .slice A1 q.1.length c1, .slice A2 ys.length c2] 52 := by
   rw [← hW4]
   have := (HL.out.set 4 (.slice A1 q.1.length c1)).set 5 (.slice A2 ys.length c2)
   simpa using this
 replace HM := Lib.hid (Mv.over (Below.refl _ _) HM.out hg (Nat.le_refl _) hlt)
 replace HB := Lib.hid (Bx.grown HB.out hg (by omega))
 replace HP := Lib.hid (HP.out.grown hg (by omega))
 replace HF := Lib.hid (HF.out.grown hg (by omega))
 have hs4 := hg.size
 obtain ⟨y0, y1, y2, y3, y4, y5⟩ := hl2.all_6
 clear hl2 hg HL
 obtain ⟨r0, r1, r2, r3, r4, r5⟩ := HB.out.all_6
 have g0 := HB.out.fro 0; have g1 := HB.out.fro 1; have g2 := HB.out.fro 2; have g3 := HB.out.fro 3; have g4 := HB.out.fro 4; have g5 := HB.out.fro 5
 have HG := Lib.hid (grown_6 W4 (w.heap.size + 1) (.bool st) (.bool false) (.string ty) (.string nm) (.slice A1 q.1.length c1) (.slice A2 ys.length c2))
 go_wp2_with fail
 obtain ⟨z0, z1, z2, z3, z4, z5⟩ := (HB.out.to_6 (.bool st) (.bool false) (.string ty) (.string nm) (.slice A1 q.1.length c1) (.slice A2 ys.length c2)).all_6
 (try simp only [Exit.inBlock, Exit.then])
 refine bodyPost_ret (v := .agg #[.bool st, .bool false, .string ty, .string nm, .slice A1 q.1.length c1, .slice A2 ys.length c2]) (by simp [results, Tryz.results64, go_sem, z0, z1, z2, z3, z4, z5]) rfl ?_
 rw [HRE.out]
 exact ⟨.mt st false ty nm (.slice A1 q.1.length c1) q.1 (.slice A2 ys.length c2) ys, rfl, ⟨_, _, _, _, _, _, _, _, _, _, rfl⟩, ((mt_node (B := w.heap.size + 2) ⟨hty, hnm⟩ HP.out HF.out HQ.out).grown HG.out (.inl (by omega))).mono (by omega), Mv.over (Below.refl _ _) HM.out HG.out (by omega) hlt⟩
theorem ctor_any (HE : ExAny) (HAR : ArAny) (W0 w : World) (c : Nat) (s : RS) (hv : Vars W0) (h : Rd W0 c s w) (hne : s.ws ≠ []) : Calls Tryz.prog 63 #[.pointer (some ⟨c, 0, none⟩)] w (MtC W0 c w (ctoM s)) := by
 obtain ⟨q, hq⟩ : ∃ q, parP s.skip = q := ⟨_, rfl⟩
 obtain ⟨a, ha⟩ : ∃ a, bd true q.2 = a := ⟨_, rfl⟩
 have HRE : Hid (ctoM s = (mkM false true E0 E0 q.1 a.1, a.2)) := Lib.hid (by simp only [ctoM, hq, ha])
 obtain ⟨RR, hRR⟩ : ∃ RR, ctoM s = RR := ⟨_, rfl⟩
 rw [hRR] at HRE ⊢
 have hlt := h.lt
 have hle0 := h.le
 obtain ⟨W1, hW1⟩ : ∃ W1, w.alloc (.cells #[.bool false, .bool false, .string ⟨#[]⟩, .string ⟨#[]⟩, .slice none 0 0, .slice none 0 0] 52) = W1 := ⟨_, rfl⟩
 have hb : Below w.heap.size w W1 := by rw [← hW1]; exact (Below.refl _ w).alloc (Nat.le_refl _) _
 have hx : Bx W1 w.heap.size #[.bool false, .bool false, .string ⟨#[]⟩, .string ⟨#[]⟩, .slice none 0 0, .slice none 0 0] 52 := by rw [← hW1]; exact Bx.new _ _ _
 have hz : W1.heap.size = w.heap.size + 1 := by rw [← hW1]; simp
 have HM := Lib.hid (Mv.below hb h)
 have HB := Lib.hid hx
 clear hb hx
 have HT := Lib.hid (skip_any W0 W1 c s HM.out.2 hne)
 have HC : Hid (∀ w', Rd W0 c s.skip w' → Calls Tryz.prog 94 #[.pointer (some ⟨c, 0, none⟩)] w' (PsC W0 c w' q)) := by
   show ∀ w', _
   intro w' h'; have := params_any W0 w' c _ h'; rw [hq] at this; exact this
 have HA : Hid (∀ w', Rd W0 c q.2 w' → Calls Tryz.prog 95 #[.pointer (some ⟨c, 0, none⟩), .bool true] w' (BlC W0 c w' a)) := by
   show ∀ w', _
   intro w' h'; have := bd_any HE HAR W0 w' c _ true hv h'; rw [ha] at this; exact this
 clear hRR hq ha h hv hne HE HAR
 go_enter Tryz.func63, Tryz.ntmps63
 go_wp2_with fail
 refine HT.out.mono ?_
 clear HT hW1
 rintro e w2 ⟨rfl, hm⟩
 replace HM := Lib.hid (HM.out.trans hm)
 replace HB := Lib.hid (Bx.grown HB.out hm.1 (by omega))
 have hs2 := hm.1.size
 clear hm
 go_wp2_with fail
 refine (HC.out _ HM.out.2).mono ?_
 clear HC
 rintro e w3 ⟨v, rfl, ho, hm⟩
 obtain ⟨A1, c1, rfl⟩ := ho.form
 have HP := Lib.hid (ho.fk.mono (show w.heap.size + 1 ≤ _ by omega))
 replace HM := Lib.hid (HM.out.trans hm)
 replace HB := Lib.hid (Bx.grown HB.out hm.1 (by omega))
 have hs3 := hm.1.size
 clear hm ho
 go_wp2_with fail
 refine (HA.out _ HM.out.2).mono ?_
 clear HA
 rintro e w4 ⟨v2, ys, rfl, ho, hq2, hm⟩
 obtain ⟨A2, c2, rfl⟩ := fk_len ho
 have HF := Lib.hid (ho.mono (show w.heap.size + 1 ≤ _ by omega))
 have HQ := Lib.hid hq2
 replace HM := Lib.hid (HM.out.trans hm)
 replace HB := Lib.hid (Bx.grown HB.out hm.1 (by omega))
 have hs4 := hm.1.size
 replace HP := Lib.hid (HP.out.grown hm.1 (by omega))
 clear hm ho hq2
 obtain ⟨r0, r1, r2, r3, r4, r5⟩ := HB.out.all_6
 have g0 := HB.out.fro 0; have g1 := HB.out.fro 1; have g2 := HB.out.fro 2; have g3 := HB.out.fro 3; have g4 := HB.out.fro 4; have g5 := HB.out.fro 5
 have HG := Lib.hid (grown_6 w4 w.heap.size (.bool false) (.bool true) (.string ⟨#[]⟩) (.string ⟨#[]⟩) (.slice A1 q.1.length c1) (.slice A2 ys.length c2))
 go_wp2_with fail
 obtain ⟨z0, z1, z2, z3, z4, z5⟩ := (HB.out.to_6 (.bool false) (.bool true) (.string ⟨#[]⟩) (.string ⟨#[]⟩) (.slice A1 q.1.length c1) (.slice A2 ys.length c2)).all_6
 (try simp only [Exit.inBlock, Exit.then])
 refine bodyPost_ret (v := .agg #[.bool false, .bool true, .string ⟨#[]⟩, .string ⟨#[]⟩, .slice A1 q.1.length c1, .slice A2 ys.length c2]) (by simp [results, Tryz.results63, go_sem, z0, z1, z2, z3, z4, z5]) rfl ?_
 rw [HRE.out]
 exact ⟨.mt false true ⟨#[]⟩ ⟨#[]⟩ (.slice A1 q.1.length c1) q.1 (.slice A2 ys.length c2) ys, rfl, ⟨_, _, _, _, _, _, _, _, _, _, rfl⟩, ((mt_node (B := w.heap.size + 1) ⟨Nat.zero_le _, Nat.zero_le _⟩ HP.out HF.out HQ.out).grown HG.out (.inl (by omega))).mono (by omega), Mv.over (Below.refl _ _) HM.out HG.out (Nat.le_refl _) hlt⟩
theorem field_0 (HE : ExAny) (W0 w : World) (c : Nat) (s : RS) (st : Bool) (ty nm : ByteArray) (hty : ty.size ≤ maxLen) (hnm : nm.size ≤ maxLen) (hv : Vars W0) (h : Rd W0 c s w) (hel : s.sees 0 sEq = false) : Calls Tryz.prog 67 #[.pointer (some ⟨c, 0, none⟩), .agg #[.bool st, .string ty, .string nm, .slice none 0 0]] w (FdC W0 c w (fldM st ty nm s)) := by
 have HRE : Hid (fldM st ty nm s = (mkF st ty nm [], s.need sSemi)) := Lib.hid (by simp only [fldM, hel]; simp)
 obtain ⟨RR, hRR⟩ : ∃ RR, fldM st ty nm s = RR := ⟨_, rfl⟩
 rw [hRR] at HRE ⊢
 have hlt := h.lt
 have hle0 := h.le
 obtain ⟨W1, hW1⟩ : ∃ W1, (w.alloc (.cells #[.bool st, .string ty, .string nm, .slice none 0 0] 83)).alloc (.cells #[.bool false, .string ⟨#[]⟩, .string ⟨#[]⟩, .slice none 0 0] 83) = W1 := ⟨_, rfl⟩
 have hb : Below w.heap.size w W1 := by rw [← hW1]; exact ((Below.refl _ w).alloc (Nat.le_refl _) _).alloc (by simp) _
 have hx1 : Bx W1 w.heap.size #[.bool st, .string ty, .string nm, .slice none 0 0] 83 := by rw [← hW1]; exact (Bx.new _ _ _).next ((Below.refl _ _).alloc (Nat.le_refl _) _)
 have hx2 : Bx W1 (w.heap.size + 1) #[.bool false, .string ⟨#[]⟩, .string ⟨#[]⟩, .slice none 0 0] 83 := by
   rw [← hW1]
   have := Bx.new (w.alloc (.cells #[.bool st, .string ty, .string nm, .slice none 0 0] 83)) #[.bool false, .string ⟨#[]⟩, .string ⟨#[]⟩, .slice none 0 0] 83
   simpa using this
 have hz : W1.heap.size = w.heap.size + 2 := by rw [← hW1]; simp
 have HM := Lib.hid (Mv.below hb h)
 have HB := Lib.hid hx2
 have HL := Lib.hid hx1
 clear hb hx1 hx2
 have HT := Lib.hid (take_false W0 W1 c s sEq HM.out.2 hel)
 have HN : Hid (∀ w', Rd W0 c (s) w' → Calls Tryz.prog 36 #[.pointer (some ⟨c, 0, none⟩), .string sSemi] w' fun e w'' => e = .returned (.tuple #[]) ∧ Mv W0 c (RS.need (s) sSemi) w' w'') := by
   show ∀ w', _
   intro w' h'; exact need_any W0 w' c _ sSemi h'
 clear hRR h hv hel HE
 go_enter Tryz.func67, Tryz.ntmps67
 go_wp2_with fail
 refine HT.out.mono ?_
 clear HT
 rintro e w2 ⟨rfl, rfl⟩
 go_wp2_with fail
 refine (HN.out _ HM.out.2).mono ?_
 clear HN hW1
 rintro e w3 ⟨rfl, hm⟩
 replace HM := Lib.hid (HM.out.trans hm)
 replace HB := Lib.hid (Bx.grown HB.out hm.1 (by omega))
 replace HL := Lib.hid (Bx.grown HL.out hm.1 (by omega))
 have hs3 := hm.1.size
 clear hm
 obtain ⟨y0, y1, y2, y3⟩ := HL.out.all_4
 obtain ⟨r0, r1, r2, r3⟩ := HB.out.all_4
 have g0 := HB.out.fro 0; have g1 := HB.out.fro 1; have g2 := HB.out.fro 2; have g3 := HB.out.fro 3
 have HG := Lib.hid (grown_4 w3 (w.heap.size + 1) (.bool st) (.string ty) (.string nm) (.slice none 0 0))
 go_wp2_with fail
 obtain ⟨z0, z1, z2, z3⟩ := (HB.out.to_4 (.bool st) (.string ty) (.string nm) (.slice none 0 0)).all_4
 (try simp only [Exit.inBlock, Exit.then])
 refine bodyPost_ret (v := .agg #[.bool st, .string ty, .string nm, .slice none 0 0]) (by simp [results, Tryz.results67, go_sem, z0, z1, z2, z3]) rfl ?_
 rw [HRE.out]
 exact ⟨.fd st ty nm (.slice none 0 0) [], rfl, ⟨_, _, _, _, _, [], rfl⟩, ((fd_node (B := w.heap.size + 2) ⟨hty, hnm⟩ (FkL.nil _ _ _) rfl).grown HG.out (.inl (by omega))).mono (by omega), Mv.over (Below.refl _ _) HM.out HG.out (by omega) hlt⟩
theorem field_1 (HE : ExAny) (W0 w : World) (c : Nat) (s : RS) (st : Bool) (ty nm : ByteArray) (hty : ty.size ≤ maxLen) (hnm : nm.size ≤ maxLen) (hv : Vars W0) (h : Rd W0 c s w) (hel : s.sees 0 sEq = true) : Calls Tryz.prog 67 #[.pointer (some ⟨c, 0, none⟩), .agg #[.bool st, .string ty, .string nm, .slice none 0 0]] w (FdC W0 c w (fldM st ty nm s)) := by
 obtain ⟨q, hq⟩ : ∃ q, ex s.skip = q := ⟨_, rfl⟩
 have HRE : Hid (fldM st ty nm s = (mkF st ty nm [hdE q.1], q.2.need sSemi)) := Lib.hid (by simp only [fldM, hel, if_true, hq])
 obtain ⟨RR, hRR⟩ : ∃ RR, fldM st ty nm s = RR := ⟨_, rfl⟩
 rw [hRR] at HRE ⊢
 have hlt := h.lt
 have hle0 := h.le
 obtain ⟨W1, hW1⟩ : ∃ W1, (w.alloc (.cells #[.bool st, .string ty, .string nm, .slice none 0 0] 83)).alloc (.cells #[.bool false, .string ⟨#[]⟩, .string ⟨#[]⟩, .slice none 0 0] 83) = W1 := ⟨_, rfl⟩
 have hb : Below w.heap.size w W1 := by rw [← hW1]; exact ((Below.refl _ w).alloc (Nat.le_refl _) _).alloc (by simp) _
 have hx1 : Bx W1 w.heap.size #[.bool st, .string ty, .string nm, .slice none 0 0] 83 := by rw [← hW1]; exact (Bx.new _ _ _).next ((Below.refl _ _).alloc (Nat.le_refl _) _)
 have hx2 : Bx W1 (w.heap.size + 1) #[.bool false, .string ⟨#[]⟩, .string ⟨#[]⟩, .slice none 0 0] 83 := by
   rw [← hW1]
   have := Bx.new (w.alloc (.cells #[.bool st, .string ty, .string nm, .slice none 0 0] 83)) #[.bool false, .string ⟨#[]⟩, .string ⟨#[]⟩, .slice none 0 0] 83
   simpa using this
 have hz : W1.heap.size = w.heap.size + 2 := by rw [← hW1]; simp
 have HM := Lib.hid (Mv.below hb h)
 have HB := Lib.hid hx2
 have HL := Lib.hid hx1
 clear hb hx1 hx2
 have HT := Lib.hid (take_true W0 W1 c s sEq HM.out.2 hel)
 have HX : Hid (∀ w', Rd W0 c (s.skip) w' → Calls Tryz.prog 20 #[.pointer (some ⟨c, 0, none⟩)] w' (ExC W0 c w' q)) := by
   show ∀ w', _
   intro w' h'; have := HE W0 w' c _ hv h'; rw [hq] at this; exact this
 have HN : Hid (∀ w', Rd W0 c (q.2) w' → Calls Tryz.prog 36 #[.pointer (some ⟨c, 0, none⟩), .string sSemi] w' fun e w'' => e = .returned (.tuple #[]) ∧ Mv W0 c (RS.need (q.2) sSemi) w' w'') := by
   show ∀ w', _
   intro w' h'; exact need_any W0 w' c _ sSemi h'
 clear hRR hq h hv hel HE
 go_enter Tryz.func67, Tryz.ntmps67
 go_wp2_with fail
 refine HT.out.mono ?_
 clear HT hW1
 rintro e w2 ⟨rfl, hm⟩
 replace HM := Lib.hid (HM.out.trans hm)
 replace HB := Lib.hid (Bx.grown HB.out hm.1 (by omega))
 replace HL := Lib.hid (Bx.grown HL.out hm.1 (by omega))
 have hs2 := hm.1.size
 clear hm
 go_wp2_with fail
 refine (HX.out _ HM.out.2).mono ?_
 clear HX
 rintro e w3 ⟨y, rfl, hk, hm⟩
 replace HM := Lib.hid (HM.out.trans hm)
 replace HB := Lib.hid (Bx.grown HB.out hm.1 (by omega))
 replace HL := Lib.hid (Bx.grown HL.out hm.1 (by omega))
 have hs3 := hm.1.size
 have HK := Lib.hid (hk.mono (show w.heap.size + 2 ≤ _ by omega))
 obtain ⟨k, m, tx, nm', ty', A, cap, l, rfl, _, _, _⟩ := hk
 clear hm
 obtain ⟨W4, hW4⟩ : ∃ W, (w3.alloc (.cells #[.int .i64 k, .int .i32 m, .string tx, .string nm', .string ty', .slice A l.length cap, .string ⟨#[]⟩, .int .i64 0] 42)) = W := ⟨_, rfl⟩
 have hb : Below w3.heap.size w3 W4 := by rw [← hW4]; exact (Below.refl _ _).alloc (Nat.le_refl _) _
 have HY : Hid (OwnE (w.heap.size + 2) W4 (.slice (some ⟨w3.heap.size, 0, none⟩) 1 1) [.ex k m tx nm' ty' (.slice A l.length cap) l ⟨#[]⟩ 0]) := Lib.hid (by have := OwnE.one HK.out (show w.heap.size + 2 ≤ w3.heap.size by omega); simp only [cellsN] at this; rw [hW4] at this; exact this)
 have HQ := Lib.hid (bare_one (ExK.nk HK.out).2.2)
 replace HM := Lib.hid (HM.out.trans (Mv.below hb HM.out.2))
 replace HB := Lib.hid (HB.out.next hb)
 replace HL := Lib.hid (HL.out.next hb)
 have hs4 := hb.size
 obtain ⟨x0, x1, x2, x3⟩ := HL.out.all_4
 have gx3 := HL.out.fro 3
 obtain ⟨W5, hW5⟩ : ∃ W, W4.setCell ⟨w.heap.size, 3, none⟩ (.slice (some ⟨w3.heap.size, 0, none⟩) 1 1) = W := ⟨_, rfl⟩
 have hg : W4.grownBy W5 (some w.heap.size) := by rw [← hW5]; exact grown_set_at _ _ _ _
 have hl2 : Bx W5 w.heap.size #[.bool st, .string ty, .string nm, .slice (some ⟨w3.heap.size, 0, none⟩) 1 1] 83 := by
   rw [← hW5]
   have := HL.out.set 3 (.slice (some ⟨w3.heap.size, 0, none⟩) 1 1)
   simpa using this
 replace HM := Lib.hid (Mv.over (Below.refl _ _) HM.out hg (Nat.le_refl _) hlt)
 replace HB := Lib.hid (Bx.grown HB.out hg (by omega))
 have HF := Lib.hid (HY.out.own.fk.grown hg (by omega))
 replace HL := Lib.hid hl2
 have hs5 := hg.size
 clear hl2 hg hb HY
 simp only [cellsN]
 go_wp2_with fail
 refine (HN.out _ HM.out.2).mono ?_
 clear HN hW4 hW5 x0 x1 x2 x3 gx3
 rintro e w6 ⟨rfl, hm⟩
 replace HM := Lib.hid (HM.out.trans hm)
 replace HB := Lib.hid (Bx.grown HB.out hm.1 (by omega))
 replace HL := Lib.hid (Bx.grown HL.out hm.1 (by omega))
 have hs6 := hm.1.size
 replace HF := Lib.hid (HF.out.grown hm.1 (by omega))
 clear hm
 obtain ⟨y0, y1, y2, y3⟩ := HL.out.all_4
 obtain ⟨r0, r1, r2, r3⟩ := HB.out.all_4
 have g0 := HB.out.fro 0; have g1 := HB.out.fro 1; have g2 := HB.out.fro 2; have g3 := HB.out.fro 3
 have HG := Lib.hid (grown_4 w6 (w.heap.size + 1) (.bool st) (.string ty) (.string nm) (.slice (some ⟨w3.heap.size, 0, none⟩) 1 1))
 go_wp2_with fail
 obtain ⟨z0, z1, z2, z3⟩ := (HB.out.to_4 (.bool st) (.string ty) (.string nm) (.slice (some ⟨w3.heap.size, 0, none⟩) 1 1)).all_4
 (try simp only [Exit.inBlock, Exit.then])
 refine bodyPost_ret (v := .agg #[.bool st, .string ty, .string nm, .slice (some ⟨w3.heap.size, 0, none⟩) 1 1]) (by simp [results, Tryz.results67, go_sem, z0, z1, z2, z3]) rfl ?_
 rw [HRE.out]
 exact ⟨.fd st ty nm (.slice (some ⟨w3.heap.size, 0, none⟩) 1 1) [.ex k m tx nm' ty' (.slice A l.length cap) l ⟨#[]⟩ 0], rfl, ⟨_, _, _, _, _, [.ex k m tx nm' ty' (.slice A l.length cap) l ⟨#[]⟩ 0], rfl⟩, ((fd_node (B := w.heap.size + 2) ⟨hty, hnm⟩ HF.out HQ.out).grown HG.out (.inl (by omega))).mono (by omega), Mv.over (Below.refl _ _) HM.out HG.out (by omega) hlt⟩
theorem field_any (HE : ExAny) (W0 w : World) (c : Nat) (s : RS) (st : Bool) (ty nm : ByteArray) (hty : ty.size ≤ maxLen) (hnm : nm.size ≤ maxLen) (hv : Vars W0) (h : Rd W0 c s w) : Calls Tryz.prog 67 #[.pointer (some ⟨c, 0, none⟩), .agg #[.bool st, .string ty, .string nm, .slice none 0 0]] w (FdC W0 c w (fldM st ty nm s)) := by
 cases hel : s.sees 0 sEq with
 | false => exact field_0 HE W0 w c s st ty nm hty hnm hv h hel
 | true => exact field_1 HE W0 w c s st ty nm hty hnm hv h hel
theorem as_cl2 (l : List Pl) (k : Nat) : ∀ w, (Instr.typeAssert (aheadV l k) 71 122 true).run Tryz.prog w = .ok (.tuple #[.string ((clP l[k]?).getD ⟨#[]⟩), .bool (clP l[k]?).isSome]) w := by
 cases hx : l[k]? with
 | none => exact fun w => by simp only [aheadV, hx, clP]; exact is_no_cl w
 | some x =>
   obtain ⟨q, a⟩ := x
   cases q with
   | fx t => exact fun w => by simp only [aheadV, hx, clP, Pr.V]; exact is_fx_cl _ w
   | nm t => exact fun w => by simp only [aheadV, hx, clP, Pr.V]; exact is_nm_cl _ w
   | cl t => exact fun w => by simp only [aheadV, hx, clP, Pr.V]; exact is_cl_cl _ w
   | nu t => exact fun w => by simp only [aheadV, hx, clP, Pr.V]; exact is_nu_cl _ w
   | qu t => exact fun w => by simp only [aheadV, hx, clP, Pr.V]; exact is_qu_cl _ w
theorem starts_none (W0 w : World) (c : Nat) (s : RS) (own : ByteArray) (h : Rd W0 c s w) (h0 : clP s.ws[0]? = none) : Calls Tryz.prog 62 #[.pointer (some ⟨c, 0, none⟩), .string own] w fun e w' => e = .returned (.bool (s.ctorB own)) ∧ w = w' := by
 have HE := Lib.hid (show s.ctorB own = false by simp [RS.ctorB, h0])
 have hasf := as_cl2 s.ws 0
 rw [h0] at hasf
 simp only [Option.getD_none, Option.isSome_none] at hasf
 have HA := Lib.hid (ahead_any W0 w c 0 s h (by omega))
 obtain ⟨u0, hu0⟩ : ∃ u, aheadV s.ws 0 = u := ⟨_, rfl⟩
 rw [hu0] at hasf HA
 clear h h0 hu0
 go_enter Tryz.func62, Tryz.ntmps62
 go_wp2_with fail
 refine HA.out.mono ?_
 clear HA
 rintro e w1 ⟨rfl, rfl⟩
 go_wp2_with fail
 go_ret
 exact ⟨ret_b HE.out, rfl⟩
theorem starts_ne (W0 w : World) (c : Nat) (s : RS) (own : ByteArray) (h : Rd W0 c s w) (t : ByteArray) (h0 : clP s.ws[0]? = some t) (h1 : (t.toList == own.toList) = false) : Calls Tryz.prog 62 #[.pointer (some ⟨c, 0, none⟩), .string own] w fun e w' => e = .returned (.bool (s.ctorB own)) ∧ w = w' := by
 have HE := Lib.hid (show s.ctorB own = false by simp [RS.ctorB, h0, h1])
 have hasf := as_cl2 s.ws 0
 rw [h0] at hasf
 simp only [Option.getD_some, Option.isSome_some] at hasf
 have HA := Lib.hid (ahead_any W0 w c 0 s h (by omega))
 obtain ⟨u0, hu0⟩ : ∃ u, aheadV s.ws 0 = u := ⟨_, rfl⟩
 rw [hu0] at hasf HA
 clear h h0 hu0
 go_enter Tryz.func62, Tryz.ntmps62
 go_wp2_with fail
 refine HA.out.mono ?_
 clear HA
 rintro e w1 ⟨rfl, rfl⟩
 go_wp2_with fail
 go_ret
 exact ⟨ret_b HE.out, rfl⟩
theorem starts_no (W0 w : World) (c : Nat) (s : RS) (own : ByteArray) (h : Rd W0 c s w) (t : ByteArray) (h0 : clP s.ws[0]? = some t) (h1 : (t.toList == own.toList) = true) (h2 : s.sees 1 sOpen = false) : Calls Tryz.prog 62 #[.pointer (some ⟨c, 0, none⟩), .string own] w fun e w' => e = .returned (.bool (s.ctorB own)) ∧ w = w' := by
 have HE := Lib.hid (show s.ctorB own = false by simp [RS.ctorB, h0, h1, h2])
 have hasf := as_cl2 s.ws 0
 rw [h0] at hasf
 simp only [Option.getD_some, Option.isSome_some] at hasf
 have HA := Lib.hid (ahead_any W0 w c 0 s h (by omega))
 obtain ⟨u0, hu0⟩ : ∃ u, aheadV s.ws 0 = u := ⟨_, rfl⟩
 rw [hu0] at hasf HA
 have T8 := Lib.hid (show Calls Tryz.prog 93 #[.pointer (some ⟨c, 0, none⟩), .int .i64 1, .string sOpen] w (fun e w' => e = .returned (.bool false) ∧ w = w') from by have := seesAt_any W0 w c 1 s sOpen h (by omega); rw [h2] at this; exact this)
 clear h h0 hu0 h2
 go_enter Tryz.func62, Tryz.ntmps62
 go_wp2_with fail
 refine HA.out.mono ?_
 clear HA
 rintro e w1 ⟨rfl, rfl⟩
 go_wp2_with fail
 refine T8.out.mono ?_
 clear T8
 rintro e w2 ⟨rfl, rfl⟩
 go_wp2_with fail
 go_ret
 exact ⟨ret_b HE.out, rfl⟩
theorem starts_yes (W0 w : World) (c : Nat) (s : RS) (own : ByteArray) (h : Rd W0 c s w) (t : ByteArray) (h0 : clP s.ws[0]? = some t) (h1 : (t.toList == own.toList) = true) (h2 : s.sees 1 sOpen = true) : Calls Tryz.prog 62 #[.pointer (some ⟨c, 0, none⟩), .string own] w fun e w' => e = .returned (.bool (s.ctorB own)) ∧ w = w' := by
 have HE := Lib.hid (show s.ctorB own = true by simp [RS.ctorB, h0, h1, h2])
 have hasf := as_cl2 s.ws 0
 rw [h0] at hasf
 simp only [Option.getD_some, Option.isSome_some] at hasf
 have HA := Lib.hid (ahead_any W0 w c 0 s h (by omega))
 obtain ⟨u0, hu0⟩ : ∃ u, aheadV s.ws 0 = u := ⟨_, rfl⟩
 rw [hu0] at hasf HA
 have T8 := Lib.hid (show Calls Tryz.prog 93 #[.pointer (some ⟨c, 0, none⟩), .int .i64 1, .string sOpen] w (fun e w' => e = .returned (.bool true) ∧ w = w') from by have := seesAt_any W0 w c 1 s sOpen h (by omega); rw [h2] at this; exact this)
 clear h h0 hu0 h2
 go_enter Tryz.func62, Tryz.ntmps62
 go_wp2_with fail
 refine HA.out.mono ?_
 clear HA
 rintro e w1 ⟨rfl, rfl⟩
 go_wp2_with fail
 refine T8.out.mono ?_
 clear T8
 rintro e w2 ⟨rfl, rfl⟩
 go_wp2_with fail
 go_ret
 exact ⟨ret_b HE.out, rfl⟩
theorem starts_any (W0 w : World) (c : Nat) (s : RS) (own : ByteArray) (h : Rd W0 c s w) : Calls Tryz.prog 62 #[.pointer (some ⟨c, 0, none⟩), .string own] w fun e w' => e = .returned (.bool (s.ctorB own)) ∧ w = w' := by
 cases h0 : clP s.ws[0]? with
 | none => exact starts_none W0 w c s own h h0
 | some t =>
   cases h1 : (t.toList == own.toList) with
   | false => exact starts_ne W0 w c s own h t h0 h1
   | true =>
     cases h2 : s.sees 1 sOpen with
     | false => exact starts_no W0 w c s own h t h0 h1 h2
     | true => exact starts_yes W0 w c s own h t h0 h1 h2
end
section
open Go.RowKit
def MbC (W0 : World) (c : Nat) (w : World) (r : Nd × RS) (e : Ending) (w' : World) : Prop := ∃ y, Mv W0 c r.2 w w' ∧ ((e = .returned (.iface 83 (.agg (cellsN y).toArray)) ∧ FdF y ∧ NK .fd w.heap.size none w' r.1 y) ∨ (e = .returned (.iface 52 (.agg (cellsN y).toArray)) ∧ MtF y ∧ NK .mt w.heap.size none w' r.1 y))
theorem member_ctor (HE : ExAny) (HAR : ArAny) (W0 w : World) (c : Nat) (s : RS) (own : ByteArray) (hv : Vars W0) (h : Rd W0 c s w) (h0 : s.sees 0 kStatic = false) (h1 : (s.take kStatic).ctorB own = true) : Calls Tryz.prog 41 #[.pointer (some ⟨c, 0, none⟩), .string own] w (MbC W0 c w (memM own s)) := by
 have hne : (s.take kStatic).ws ≠ [] := by
   intro e
   simp [RS.ctorB, e, clP] at h1
 have HRE : Hid (memM own s = ctoM (s.take kStatic)) := Lib.hid (by simp only [memM, h0, h1, and_self, if_true])
 obtain ⟨RR, hRR⟩ : ∃ RR, memM own s = RR := ⟨_, rfl⟩
 rw [hRR] at HRE ⊢
 have HT0 := Lib.hid (take_any W0 w c s kStatic h)
 rw [h0] at HT0
 obtain ⟨s1, hs1⟩ : ∃ s1, s.take kStatic = s1 := ⟨_, rfl⟩
 rw [hs1] at HT0
 rw [hs1] at HRE h1 hne
 have HC : Hid (∀ w', Rd W0 c (s1) w' → Calls Tryz.prog 62 #[.pointer (some ⟨c, 0, none⟩), .string own] w' fun e w'' => e = .returned (.bool true) ∧ w' = w'') := by
   show ∀ w', _
   intro w' h'; have := starts_any W0 w' c s1 own h'; rw [h1] at this; exact this
 have HS : Hid (∀ w', Rd W0 c s1 w' → Calls Tryz.prog 63 #[.pointer (some ⟨c, 0, none⟩)] w' (MtC W0 c w' RR)) := by
   show ∀ w', _
   intro w' h'; have := ctor_any HE HAR W0 w' c s1 hv h' hne; rw [HRE.out]; exact this
 clear hRR hs1 h hv HE HAR h0 h1 hne
 go_enter Tryz.func41, Tryz.ntmps41
 go_wp2_with fail
 refine HT0.out.mono ?_
 clear HT0
 rintro e w1 ⟨rfl, hm⟩
 have HM := Lib.hid hm
 clear hm
 go_wp2_with fail
 refine (HC.out _ HM.out.2).mono ?_
 clear HC
 rintro e w2 ⟨rfl, rfl⟩
 go_wp2_with fail
 refine (HS.out _ HM.out.2).mono ?_
 clear HS
 rintro e w9 ⟨y, rfl, ⟨st, ct, ty, nm, A1, A2, c1, c2, ps, l, rfl⟩, hk, hm⟩
 have HK := Lib.hid (hk.mono (show w.heap.size ≤ _ from HM.out.1.size))
 replace HM := Lib.hid (HM.out.trans hm)
 clear hk hm
 simp only [cellsN]
 go_wp2_with fail
 go_ret
 exact ⟨_, HM.out, .inr ⟨rfl, ⟨_, _, _, _, _, _, _, _, _, _, rfl⟩, HK.out⟩⟩
theorem member_void_false (HE : ExAny) (HAR : ArAny) (W0 w : World) (c : Nat) (s : RS) (own : ByteArray) (hv : Vars W0) (h : Rd W0 c s w) (h0 : s.sees 0 kStatic = false) (h1 : (s.take kStatic).ctorB own = false) (h2 : (s.take kStatic).sees 0 kVoid = true) : Calls Tryz.prog 41 #[.pointer (some ⟨c, 0, none⟩), .string own] w (MbC W0 c w (memM own s)) := by
 have HRE : Hid (memM own s = metM false kVoid (s.take kStatic).skip.nameV (s.take kStatic).skip.name) := Lib.hid (by simp only [memM, h0, h1, h2]; simp)
 obtain ⟨RR, hRR⟩ : ∃ RR, memM own s = RR := ⟨_, rfl⟩
 rw [hRR] at HRE ⊢
 have HT0 := Lib.hid (take_any W0 w c s kStatic h)
 rw [h0] at HT0
 obtain ⟨s1, hs1⟩ : ∃ s1, s.take kStatic = s1 := ⟨_, rfl⟩
 rw [hs1] at HT0
 rw [hs1] at HRE h2 h1
 have HC : Hid (∀ w', Rd W0 c (s1) w' → Calls Tryz.prog 62 #[.pointer (some ⟨c, 0, none⟩), .string own] w' fun e w'' => e = .returned (.bool false) ∧ w' = w'') := by
   show ∀ w', _
   intro w' h'; have := starts_any W0 w' c s1 own h'; rw [h1] at this; exact this
 have HV : Hid (∀ w', Rd W0 c (s1) w' → Calls Tryz.prog 38 #[.pointer (some ⟨c, 0, none⟩), .string kVoid] w' fun e w'' => e = .returned (.bool true) ∧ Mv W0 c (RS.skip (s1)) w' w'') := by
   show ∀ w', _
   intro w' h'; exact take_true W0 w' c s1 kVoid h' h2
 have hnm := name_len s1.skip
 obtain ⟨nm, hnme⟩ : ∃ nm, s1.skip.nameV = nm := ⟨_, rfl⟩
 have HN : Hid (∀ w', Rd W0 c (s1.skip) w' → Calls Tryz.prog 65 #[.pointer (some ⟨c, 0, none⟩)] w' fun e w'' => e = .returned (.string s1.skip.nameV) ∧ Mv W0 c (s1.skip.name) w' w'') := by
   show ∀ w', _
   intro w' h'; exact nameR_any W0 w' c _ h'
 rw [hnme] at HN HRE hnm
 have HS : Hid (∀ w', Rd W0 c (s1.skip.name) w' → Calls Tryz.prog 64 #[.pointer (some ⟨c, 0, none⟩), .agg #[.bool false, .bool false, .string kVoid, .string nm, .slice none 0 0, .slice none 0 0]] w' (MtC W0 c w' RR)) := by
   show ∀ w', _
   intro w' h'; have := method_any HE HAR W0 w' c _ false kVoid nm (by unfold kVoid maxLen; decide) hnm hv h'; rw [HRE.out]; exact this
 clear hRR hs1 h hv HE HAR h0 h1 h2 hnme
 go_enter Tryz.func41, Tryz.ntmps41
 go_wp2_with fail
 refine HT0.out.mono ?_
 clear HT0
 rintro e w1 ⟨rfl, hm⟩
 have HM := Lib.hid hm
 clear hm
 go_wp2_with fail
 refine (HC.out _ HM.out.2).mono ?_
 clear HC
 rintro e w2 ⟨rfl, rfl⟩
 go_wp2_with fail
 refine (HV.out _ HM.out.2).mono ?_
 clear HV
 rintro e w2 ⟨rfl, hm⟩
 replace HM := Lib.hid (HM.out.trans hm)
 clear hm
 go_wp2_with fail
 refine (HN.out _ HM.out.2).mono ?_
 clear HN
 rintro e w2 ⟨rfl, hm⟩
 replace HM := Lib.hid (HM.out.trans hm)
 clear hm
 go_wp2_with fail
 refine (HS.out _ HM.out.2).mono ?_
 clear HS
 rintro e w9 ⟨y, rfl, ⟨st, ct, ty, nm, A1, A2, c1, c2, ps, l, rfl⟩, hk, hm⟩
 have HK := Lib.hid (hk.mono (show w.heap.size ≤ _ from HM.out.1.size))
 replace HM := Lib.hid (HM.out.trans hm)
 clear hk hm
 simp only [cellsN]
 go_wp2_with fail
 go_ret
 exact ⟨_, HM.out, .inr ⟨rfl, ⟨_, _, _, _, _, _, _, _, _, _, rfl⟩, HK.out⟩⟩
theorem member_method_false (HE : ExAny) (HAR : ArAny) (W0 w : World) (c : Nat) (s : RS) (own : ByteArray) (hv : Vars W0) (h : Rd W0 c s w) (h0 : s.sees 0 kStatic = false) (h1 : (s.take kStatic).ctorB own = false) (h2 : (s.take kStatic).sees 0 kVoid = false) (h3 : (s.take kStatic).typ.name.sees 0 sOpen = true) : Calls Tryz.prog 41 #[.pointer (some ⟨c, 0, none⟩), .string own] w (MbC W0 c w (memM own s)) := by
 have HRE : Hid (memM own s = metM false (s.take kStatic).typV (s.take kStatic).typ.nameV (s.take kStatic).typ.name) := Lib.hid (by simp only [memM, h0, h1, h2, h3]; simp)
 obtain ⟨RR, hRR⟩ : ∃ RR, memM own s = RR := ⟨_, rfl⟩
 rw [hRR] at HRE ⊢
 have HT0 := Lib.hid (take_any W0 w c s kStatic h)
 rw [h0] at HT0
 obtain ⟨s1, hs1⟩ : ∃ s1, s.take kStatic = s1 := ⟨_, rfl⟩
 rw [hs1] at HT0
 rw [hs1] at HRE h2 h1 h3
 have HC : Hid (∀ w', Rd W0 c (s1) w' → Calls Tryz.prog 62 #[.pointer (some ⟨c, 0, none⟩), .string own] w' fun e w'' => e = .returned (.bool false) ∧ w' = w'') := by
   show ∀ w', _
   intro w' h'; have := starts_any W0 w' c s1 own h'; rw [h1] at this; exact this
 have HV : Hid (∀ w', Rd W0 c (s1) w' → Calls Tryz.prog 38 #[.pointer (some ⟨c, 0, none⟩), .string kVoid] w' fun e w'' => e = .returned (.bool false) ∧ w' = w'') := by
   show ∀ w', _
   intro w' h'; exact take_false W0 w' c s1 kVoid h' h2
 have hty := typ_len s1
 have hnm := name_len s1.typ
 obtain ⟨tv, htve⟩ : ∃ tv, s1.typV = tv := ⟨_, rfl⟩
 obtain ⟨nm, hnme⟩ : ∃ nm, s1.typ.nameV = nm := ⟨_, rfl⟩
 have HY : Hid (∀ w', Rd W0 c (s1) w' → Calls Tryz.prog 66 #[.pointer (some ⟨c, 0, none⟩)] w' fun e w'' => e = .returned (.string s1.typV) ∧ Mv W0 c (s1.typ) w' w'') := by
   show ∀ w', _
   intro w' h'; exact type_any W0 w' c _ h'
 have HN : Hid (∀ w', Rd W0 c (s1.typ) w' → Calls Tryz.prog 65 #[.pointer (some ⟨c, 0, none⟩)] w' fun e w'' => e = .returned (.string s1.typ.nameV) ∧ Mv W0 c (s1.typ.name) w' w'') := by
   show ∀ w', _
   intro w' h'; exact nameR_any W0 w' c _ h'
 rw [htve] at HY HRE hty
 rw [hnme] at HN HRE hnm
 have HO : Hid (∀ w', Rd W0 c (s1.typ.name) w' → Calls Tryz.prog 61 #[.pointer (some ⟨c, 0, none⟩), .string sOpen] w' fun e w'' => e = .returned (.bool true) ∧ w' = w'') := by
   show ∀ w', _
   intro w' h'; exact sees_is W0 w' c _ sOpen _ h' h3
 have HS : Hid (∀ w', Rd W0 c (s1.typ.name) w' → Calls Tryz.prog 64 #[.pointer (some ⟨c, 0, none⟩), .agg #[.bool false, .bool false, .string tv, .string nm, .slice none 0 0, .slice none 0 0]] w' (MtC W0 c w' RR)) := by
   show ∀ w', _
   intro w' h'; have := method_any HE HAR W0 w' c _ false tv nm hty hnm hv h'; rw [HRE.out]; exact this
 clear hRR hs1 h hv HE HAR h0 h1 h2 h3 hnme htve
 go_enter Tryz.func41, Tryz.ntmps41
 go_wp2_with fail
 refine HT0.out.mono ?_
 clear HT0
 rintro e w1 ⟨rfl, hm⟩
 have HM := Lib.hid hm
 clear hm
 go_wp2_with fail
 refine (HC.out _ HM.out.2).mono ?_
 clear HC
 rintro e w2 ⟨rfl, rfl⟩
 go_wp2_with fail
 refine (HV.out _ HM.out.2).mono ?_
 clear HV
 rintro e w2 ⟨rfl, rfl⟩
 go_wp2_with fail
 refine (HY.out _ HM.out.2).mono ?_
 clear HY
 rintro e w2 ⟨rfl, hm⟩
 replace HM := Lib.hid (HM.out.trans hm)
 clear hm
 go_wp2_with fail
 refine (HN.out _ HM.out.2).mono ?_
 clear HN
 rintro e w2 ⟨rfl, hm⟩
 replace HM := Lib.hid (HM.out.trans hm)
 clear hm
 go_wp2_with fail
 refine (HO.out _ HM.out.2).mono ?_
 clear HO
 rintro e w2 ⟨rfl, rfl⟩
 go_wp2_with fail
 refine (HS.out _ HM.out.2).mono ?_
 clear HS
 rintro e w9 ⟨y, rfl, ⟨st, ct, ty, nm, A1, A2, c1, c2, ps, l, rfl⟩, hk, hm⟩
 have HK := Lib.hid (hk.mono (show w.heap.size ≤ _ from HM.out.1.size))
 replace HM := Lib.hid (HM.out.trans hm)
 clear hk hm
 simp only [cellsN]
 go_wp2_with fail
 go_ret
 exact ⟨_, HM.out, .inr ⟨rfl, ⟨_, _, _, _, _, _, _, _, _, _, rfl⟩, HK.out⟩⟩
theorem member_field_false (HE : ExAny) (HAR : ArAny) (W0 w : World) (c : Nat) (s : RS) (own : ByteArray) (hv : Vars W0) (h : Rd W0 c s w) (h0 : s.sees 0 kStatic = false) (h1 : (s.take kStatic).ctorB own = false) (h2 : (s.take kStatic).sees 0 kVoid = false) (h3 : (s.take kStatic).typ.name.sees 0 sOpen = false) : Calls Tryz.prog 41 #[.pointer (some ⟨c, 0, none⟩), .string own] w (MbC W0 c w (memM own s)) := by
 have HRE : Hid (memM own s = fldM false (s.take kStatic).typV (s.take kStatic).typ.nameV (s.take kStatic).typ.name) := Lib.hid (by simp only [memM, h0, h1, h2, h3]; simp)
 obtain ⟨RR, hRR⟩ : ∃ RR, memM own s = RR := ⟨_, rfl⟩
 rw [hRR] at HRE ⊢
 have HT0 := Lib.hid (take_any W0 w c s kStatic h)
 rw [h0] at HT0
 obtain ⟨s1, hs1⟩ : ∃ s1, s.take kStatic = s1 := ⟨_, rfl⟩
 rw [hs1] at HT0
 rw [hs1] at HRE h2 h1 h3
 have HC : Hid (∀ w', Rd W0 c (s1) w' → Calls Tryz.prog 62 #[.pointer (some ⟨c, 0, none⟩), .string own] w' fun e w'' => e = .returned (.bool false) ∧ w' = w'') := by
   show ∀ w', _
   intro w' h'; have := starts_any W0 w' c s1 own h'; rw [h1] at this; exact this
 have HV : Hid (∀ w', Rd W0 c (s1) w' → Calls Tryz.prog 38 #[.pointer (some ⟨c, 0, none⟩), .string kVoid] w' fun e w'' => e = .returned (.bool false) ∧ w' = w'') := by
   show ∀ w', _
   intro w' h'; exact take_false W0 w' c s1 kVoid h' h2
 have hty := typ_len s1
 have hnm := name_len s1.typ
 obtain ⟨tv, htve⟩ : ∃ tv, s1.typV = tv := ⟨_, rfl⟩
 obtain ⟨nm, hnme⟩ : ∃ nm, s1.typ.nameV = nm := ⟨_, rfl⟩
 have HY : Hid (∀ w', Rd W0 c (s1) w' → Calls Tryz.prog 66 #[.pointer (some ⟨c, 0, none⟩)] w' fun e w'' => e = .returned (.string s1.typV) ∧ Mv W0 c (s1.typ) w' w'') := by
   show ∀ w', _
   intro w' h'; exact type_any W0 w' c _ h'
 have HN : Hid (∀ w', Rd W0 c (s1.typ) w' → Calls Tryz.prog 65 #[.pointer (some ⟨c, 0, none⟩)] w' fun e w'' => e = .returned (.string s1.typ.nameV) ∧ Mv W0 c (s1.typ.name) w' w'') := by
   show ∀ w', _
   intro w' h'; exact nameR_any W0 w' c _ h'
 rw [htve] at HY HRE hty
 rw [hnme] at HN HRE hnm
 have HO : Hid (∀ w', Rd W0 c (s1.typ.name) w' → Calls Tryz.prog 61 #[.pointer (some ⟨c, 0, none⟩), .string sOpen] w' fun e w'' => e = .returned (.bool false) ∧ w' = w'') := by
   show ∀ w', _
   intro w' h'; exact sees_is W0 w' c _ sOpen _ h' h3
 have HS : Hid (∀ w', Rd W0 c (s1.typ.name) w' → Calls Tryz.prog 67 #[.pointer (some ⟨c, 0, none⟩), .agg #[.bool false, .string tv, .string nm, .slice none 0 0]] w' (FdC W0 c w' RR)) := by
   show ∀ w', _
   intro w' h'; have := field_any HE W0 w' c _ false tv nm hty hnm hv h'; rw [HRE.out]; exact this
 clear hRR hs1 h hv HE HAR h0 h1 h2 h3 hnme htve
 go_enter Tryz.func41, Tryz.ntmps41
 go_wp2_with fail
 refine HT0.out.mono ?_
 clear HT0
 rintro e w1 ⟨rfl, hm⟩
 have HM := Lib.hid hm
 clear hm
 go_wp2_with fail
 refine (HC.out _ HM.out.2).mono ?_
 clear HC
 rintro e w2 ⟨rfl, rfl⟩
 go_wp2_with fail
 refine (HV.out _ HM.out.2).mono ?_
 clear HV
 rintro e w2 ⟨rfl, rfl⟩
 go_wp2_with fail
 refine (HY.out _ HM.out.2).mono ?_
 clear HY
 rintro e w2 ⟨rfl, hm⟩
 replace HM := Lib.hid (HM.out.trans hm)
 clear hm
 go_wp2_with fail
 refine (HN.out _ HM.out.2).mono ?_
 clear HN
 rintro e w2 ⟨rfl, hm⟩
 replace HM := Lib.hid (HM.out.trans hm)
 clear hm
 go_wp2_with fail
 refine (HO.out _ HM.out.2).mono ?_
 clear HO
 rintro e w2 ⟨rfl, rfl⟩
 go_wp2_with fail
 refine (HS.out _ HM.out.2).mono ?_
 clear HS
 rintro e w9 ⟨y, rfl, ⟨st, ty, nm, A1, c1, l, rfl⟩, hk, hm⟩
 have HK := Lib.hid (hk.mono (show w.heap.size ≤ _ from HM.out.1.size))
 replace HM := Lib.hid (HM.out.trans hm)
 clear hk hm
 simp only [cellsN]
 go_wp2_with fail
 go_ret
 exact ⟨_, HM.out, .inl ⟨rfl, ⟨_, _, _, _, _, _, rfl⟩, HK.out⟩⟩
theorem member_void_true (HE : ExAny) (HAR : ArAny) (W0 w : World) (c : Nat) (s : RS) (own : ByteArray) (hv : Vars W0) (h : Rd W0 c s w) (h0 : s.sees 0 kStatic = true) (h2 : (s.take kStatic).sees 0 kVoid = true) : Calls Tryz.prog 41 #[.pointer (some ⟨c, 0, none⟩), .string own] w (MbC W0 c w (memM own s)) := by
 have HRE : Hid (memM own s = metM true kVoid (s.take kStatic).skip.nameV (s.take kStatic).skip.name) := Lib.hid (by simp only [memM, h0, h2]; simp)
 obtain ⟨RR, hRR⟩ : ∃ RR, memM own s = RR := ⟨_, rfl⟩
 rw [hRR] at HRE ⊢
 have HT0 := Lib.hid (take_any W0 w c s kStatic h)
 rw [h0] at HT0
 obtain ⟨s1, hs1⟩ : ∃ s1, s.take kStatic = s1 := ⟨_, rfl⟩
 rw [hs1] at HT0
 rw [hs1] at HRE h2
 have HV : Hid (∀ w', Rd W0 c (s1) w' → Calls Tryz.prog 38 #[.pointer (some ⟨c, 0, none⟩), .string kVoid] w' fun e w'' => e = .returned (.bool true) ∧ Mv W0 c (RS.skip (s1)) w' w'') := by
   show ∀ w', _
   intro w' h'; exact take_true W0 w' c s1 kVoid h' h2
 have hnm := name_len s1.skip
 obtain ⟨nm, hnme⟩ : ∃ nm, s1.skip.nameV = nm := ⟨_, rfl⟩
 have HN : Hid (∀ w', Rd W0 c (s1.skip) w' → Calls Tryz.prog 65 #[.pointer (some ⟨c, 0, none⟩)] w' fun e w'' => e = .returned (.string s1.skip.nameV) ∧ Mv W0 c (s1.skip.name) w' w'') := by
   show ∀ w', _
   intro w' h'; exact nameR_any W0 w' c _ h'
 rw [hnme] at HN HRE hnm
 have HS : Hid (∀ w', Rd W0 c (s1.skip.name) w' → Calls Tryz.prog 64 #[.pointer (some ⟨c, 0, none⟩), .agg #[.bool true, .bool false, .string kVoid, .string nm, .slice none 0 0, .slice none 0 0]] w' (MtC W0 c w' RR)) := by
   show ∀ w', _
   intro w' h'; have := method_any HE HAR W0 w' c _ true kVoid nm (by unfold kVoid maxLen; decide) hnm hv h'; rw [HRE.out]; exact this
 clear hRR hs1 h hv HE HAR h0 h2 hnme
 go_enter Tryz.func41, Tryz.ntmps41
 go_wp2_with fail
 refine HT0.out.mono ?_
 clear HT0
 rintro e w1 ⟨rfl, hm⟩
 have HM := Lib.hid hm
 clear hm
 go_wp2_with fail
 refine (HV.out _ HM.out.2).mono ?_
 clear HV
 rintro e w2 ⟨rfl, hm⟩
 replace HM := Lib.hid (HM.out.trans hm)
 clear hm
 go_wp2_with fail
 refine (HN.out _ HM.out.2).mono ?_
 clear HN
 rintro e w2 ⟨rfl, hm⟩
 replace HM := Lib.hid (HM.out.trans hm)
 clear hm
 go_wp2_with fail
 refine (HS.out _ HM.out.2).mono ?_
 clear HS
 rintro e w9 ⟨y, rfl, ⟨st, ct, ty, nm, A1, A2, c1, c2, ps, l, rfl⟩, hk, hm⟩
 have HK := Lib.hid (hk.mono (show w.heap.size ≤ _ from HM.out.1.size))
 replace HM := Lib.hid (HM.out.trans hm)
 clear hk hm
 simp only [cellsN]
 go_wp2_with fail
 go_ret
 exact ⟨_, HM.out, .inr ⟨rfl, ⟨_, _, _, _, _, _, _, _, _, _, rfl⟩, HK.out⟩⟩
theorem member_method_true (HE : ExAny) (HAR : ArAny) (W0 w : World) (c : Nat) (s : RS) (own : ByteArray) (hv : Vars W0) (h : Rd W0 c s w) (h0 : s.sees 0 kStatic = true) (h2 : (s.take kStatic).sees 0 kVoid = false) (h3 : (s.take kStatic).typ.name.sees 0 sOpen = true) : Calls Tryz.prog 41 #[.pointer (some ⟨c, 0, none⟩), .string own] w (MbC W0 c w (memM own s)) := by
 have HRE : Hid (memM own s = metM true (s.take kStatic).typV (s.take kStatic).typ.nameV (s.take kStatic).typ.name) := Lib.hid (by simp only [memM, h0, h2, h3]; simp)
 obtain ⟨RR, hRR⟩ : ∃ RR, memM own s = RR := ⟨_, rfl⟩
 rw [hRR] at HRE ⊢
 have HT0 := Lib.hid (take_any W0 w c s kStatic h)
 rw [h0] at HT0
 obtain ⟨s1, hs1⟩ : ∃ s1, s.take kStatic = s1 := ⟨_, rfl⟩
 rw [hs1] at HT0
 rw [hs1] at HRE h2 h3
 have HV : Hid (∀ w', Rd W0 c (s1) w' → Calls Tryz.prog 38 #[.pointer (some ⟨c, 0, none⟩), .string kVoid] w' fun e w'' => e = .returned (.bool false) ∧ w' = w'') := by
   show ∀ w', _
   intro w' h'; exact take_false W0 w' c s1 kVoid h' h2
 have hty := typ_len s1
 have hnm := name_len s1.typ
 obtain ⟨tv, htve⟩ : ∃ tv, s1.typV = tv := ⟨_, rfl⟩
 obtain ⟨nm, hnme⟩ : ∃ nm, s1.typ.nameV = nm := ⟨_, rfl⟩
 have HY : Hid (∀ w', Rd W0 c (s1) w' → Calls Tryz.prog 66 #[.pointer (some ⟨c, 0, none⟩)] w' fun e w'' => e = .returned (.string s1.typV) ∧ Mv W0 c (s1.typ) w' w'') := by
   show ∀ w', _
   intro w' h'; exact type_any W0 w' c _ h'
 have HN : Hid (∀ w', Rd W0 c (s1.typ) w' → Calls Tryz.prog 65 #[.pointer (some ⟨c, 0, none⟩)] w' fun e w'' => e = .returned (.string s1.typ.nameV) ∧ Mv W0 c (s1.typ.name) w' w'') := by
   show ∀ w', _
   intro w' h'; exact nameR_any W0 w' c _ h'
 rw [htve] at HY HRE hty
 rw [hnme] at HN HRE hnm
 have HO : Hid (∀ w', Rd W0 c (s1.typ.name) w' → Calls Tryz.prog 61 #[.pointer (some ⟨c, 0, none⟩), .string sOpen] w' fun e w'' => e = .returned (.bool true) ∧ w' = w'') := by
   show ∀ w', _
   intro w' h'; exact sees_is W0 w' c _ sOpen _ h' h3
 have HS : Hid (∀ w', Rd W0 c (s1.typ.name) w' → Calls Tryz.prog 64 #[.pointer (some ⟨c, 0, none⟩), .agg #[.bool true, .bool false, .string tv, .string nm, .slice none 0 0, .slice none 0 0]] w' (MtC W0 c w' RR)) := by
   show ∀ w', _
   intro w' h'; have := method_any HE HAR W0 w' c _ true tv nm hty hnm hv h'; rw [HRE.out]; exact this
 clear hRR hs1 h hv HE HAR h0 h2 h3 hnme htve
 go_enter Tryz.func41, Tryz.ntmps41
 go_wp2_with fail
 refine HT0.out.mono ?_
 clear HT0
 rintro e w1 ⟨rfl, hm⟩
 have HM := Lib.hid hm
 clear hm
 go_wp2_with fail
 refine (HV.out _ HM.out.2).mono ?_
 clear HV
 rintro e w2 ⟨rfl, rfl⟩
 go_wp2_with fail
 refine (HY.out _ HM.out.2).mono ?_
 clear HY
 rintro e w2 ⟨rfl, hm⟩
 replace HM := Lib.hid (HM.out.trans hm)
 clear hm
 go_wp2_with fail
 refine (HN.out _ HM.out.2).mono ?_
 clear HN
 rintro e w2 ⟨rfl, hm⟩
 replace HM := Lib.hid (HM.out.trans hm)
 clear hm
 go_wp2_with fail
 refine (HO.out _ HM.out.2).mono ?_
 clear HO
 rintro e w2 ⟨rfl, rfl⟩
 go_wp2_with fail
 refine (HS.out _ HM.out.2).mono ?_
 clear HS
 rintro e w9 ⟨y, rfl, ⟨st, ct, ty, nm, A1, A2, c1, c2, ps, l, rfl⟩, hk, hm⟩
 have HK := Lib.hid (hk.mono (show w.heap.size ≤ _ from HM.out.1.size))
 replace HM := Lib.hid (HM.out.trans hm)
 clear hk hm
 simp only [cellsN]
 go_wp2_with fail
 go_ret
 exact ⟨_, HM.out, .inr ⟨rfl, ⟨_, _, _, _, _, _, _, _, _, _, rfl⟩, HK.out⟩⟩
theorem member_field_true (HE : ExAny) (HAR : ArAny) (W0 w : World) (c : Nat) (s : RS) (own : ByteArray) (hv : Vars W0) (h : Rd W0 c s w) (h0 : s.sees 0 kStatic = true) (h2 : (s.take kStatic).sees 0 kVoid = false) (h3 : (s.take kStatic).typ.name.sees 0 sOpen = false) : Calls Tryz.prog 41 #[.pointer (some ⟨c, 0, none⟩), .string own] w (MbC W0 c w (memM own s)) := by
 have HRE : Hid (memM own s = fldM true (s.take kStatic).typV (s.take kStatic).typ.nameV (s.take kStatic).typ.name) := Lib.hid (by simp only [memM, h0, h2, h3]; simp)
 obtain ⟨RR, hRR⟩ : ∃ RR, memM own s = RR := ⟨_, rfl⟩
 rw [hRR] at HRE ⊢
 have HT0 := Lib.hid (take_any W0 w c s kStatic h)
 rw [h0] at HT0
 obtain ⟨s1, hs1⟩ : ∃ s1, s.take kStatic = s1 := ⟨_, rfl⟩
 rw [hs1] at HT0
 rw [hs1] at HRE h2 h3
 have HV : Hid (∀ w', Rd W0 c (s1) w' → Calls Tryz.prog 38 #[.pointer (some ⟨c, 0, none⟩), .string kVoid] w' fun e w'' => e = .returned (.bool false) ∧ w' = w'') := by
   show ∀ w', _
   intro w' h'; exact take_false W0 w' c s1 kVoid h' h2
 have hty := typ_len s1
 have hnm := name_len s1.typ
 obtain ⟨tv, htve⟩ : ∃ tv, s1.typV = tv := ⟨_, rfl⟩
 obtain ⟨nm, hnme⟩ : ∃ nm, s1.typ.nameV = nm := ⟨_, rfl⟩
 have HY : Hid (∀ w', Rd W0 c (s1) w' → Calls Tryz.prog 66 #[.pointer (some ⟨c, 0, none⟩)] w' fun e w'' => e = .returned (.string s1.typV) ∧ Mv W0 c (s1.typ) w' w'') := by
   show ∀ w', _
   intro w' h'; exact type_any W0 w' c _ h'
 have HN : Hid (∀ w', Rd W0 c (s1.typ) w' → Calls Tryz.prog 65 #[.pointer (some ⟨c, 0, none⟩)] w' fun e w'' => e = .returned (.string s1.typ.nameV) ∧ Mv W0 c (s1.typ.name) w' w'') := by
   show ∀ w', _
   intro w' h'; exact nameR_any W0 w' c _ h'
 rw [htve] at HY HRE hty
 rw [hnme] at HN HRE hnm
 have HO : Hid (∀ w', Rd W0 c (s1.typ.name) w' → Calls Tryz.prog 61 #[.pointer (some ⟨c, 0, none⟩), .string sOpen] w' fun e w'' => e = .returned (.bool false) ∧ w' = w'') := by
   show ∀ w', _
   intro w' h'; exact sees_is W0 w' c _ sOpen _ h' h3
 have HS : Hid (∀ w', Rd W0 c (s1.typ.name) w' → Calls Tryz.prog 67 #[.pointer (some ⟨c, 0, none⟩), .agg #[.bool true, .string tv, .string nm, .slice none 0 0]] w' (FdC W0 c w' RR)) := by
   show ∀ w', _
   intro w' h'; have := field_any HE W0 w' c _ true tv nm hty hnm hv h'; rw [HRE.out]; exact this
 clear hRR hs1 h hv HE HAR h0 h2 h3 hnme htve
 go_enter Tryz.func41, Tryz.ntmps41
 go_wp2_with fail
 refine HT0.out.mono ?_
 clear HT0
 rintro e w1 ⟨rfl, hm⟩
 have HM := Lib.hid hm
 clear hm
 go_wp2_with fail
 refine (HV.out _ HM.out.2).mono ?_
 clear HV
 rintro e w2 ⟨rfl, rfl⟩
 go_wp2_with fail
 refine (HY.out _ HM.out.2).mono ?_
 clear HY
 rintro e w2 ⟨rfl, hm⟩
 replace HM := Lib.hid (HM.out.trans hm)
 clear hm
 go_wp2_with fail
 refine (HN.out _ HM.out.2).mono ?_
 clear HN
 rintro e w2 ⟨rfl, hm⟩
 replace HM := Lib.hid (HM.out.trans hm)
 clear hm
 go_wp2_with fail
 refine (HO.out _ HM.out.2).mono ?_
 clear HO
 rintro e w2 ⟨rfl, rfl⟩
 go_wp2_with fail
 refine (HS.out _ HM.out.2).mono ?_
 clear HS
 rintro e w9 ⟨y, rfl, ⟨st, ty, nm, A1, c1, l, rfl⟩, hk, hm⟩
 have HK := Lib.hid (hk.mono (show w.heap.size ≤ _ from HM.out.1.size))
 replace HM := Lib.hid (HM.out.trans hm)
 clear hk hm
 simp only [cellsN]
 go_wp2_with fail
 go_ret
 exact ⟨_, HM.out, .inl ⟨rfl, ⟨_, _, _, _, _, _, rfl⟩, HK.out⟩⟩
theorem member_any (HE : ExAny) (HAR : ArAny) (W0 w : World) (c : Nat) (s : RS) (own : ByteArray) (hv : Vars W0) (h : Rd W0 c s w) : Calls Tryz.prog 41 #[.pointer (some ⟨c, 0, none⟩), .string own] w (MbC W0 c w (memM own s)) := by
 cases h0 : s.sees 0 kStatic with
 | true =>
   cases h2 : (s.take kStatic).sees 0 kVoid with
   | true => exact member_void_true HE HAR W0 w c s own hv h h0 h2
   | false =>
     cases h3 : (s.take kStatic).typ.name.sees 0 sOpen with
     | true => exact member_method_true HE HAR W0 w c s own hv h h0 h2 h3
     | false => exact member_field_true HE HAR W0 w c s own hv h h0 h2 h3
 | false =>
   cases h1 : (s.take kStatic).ctorB own with
   | true => exact member_ctor HE HAR W0 w c s own hv h h0 h1
   | false =>
     cases h2 : (s.take kStatic).sees 0 kVoid with
     | true => exact member_void_false HE HAR W0 w c s own hv h h0 h1 h2
     | false =>
       cases h3 : (s.take kStatic).typ.name.sees 0 sOpen with
       | true => exact member_method_false HE HAR W0 w c s own hv h h0 h1 h2 h3
       | false => exact member_field_false HE HAR W0 w c s own hv h h0 h1 h2 h3
end
section
open Go.RowKit
theorem grown_more {w w1 w2 : World} {o : Option Nat} {g : Nat} (h : w.grownBy w1 o) (h2 : w1.grownBy w2 (some g)) (hg : w.heap.size ≤ g) : w.grownBy w2 o :=
 ⟨h2.os.trans h.os, h2.tape.trans h.tape, h2.output.trans h.output, Nat.le_trans h.size h2.size, fun k hk hne => (h2.block k (Nat.lt_of_lt_of_le hk h.size) (by simp; omega)).trans (h.block k hk hne)⟩
theorem grownB_below {w w1 w2 : World} {o : Option Nat} (h : w.grownBy w1 o) (hb : Below w1.heap.size w1 w2) : w.grownBy w2 o :=
 ⟨hb.os.trans h.os, hb.tape.trans h.tape, hb.output.trans h.output, Nat.le_trans h.size hb.size, fun k hk hne => (hb.block k (Nat.lt_of_lt_of_le hk h.size)).trans (h.block k hk hne)⟩
theorem below_grown' {w w1 w2 : World} {o : Option Nat} (hb : Below w.heap.size w w1) (h : w1.grownBy w2 o) : w.grownBy w2 o :=
 ⟨h.os.trans hb.os, h.tape.trans hb.tape, h.output.trans hb.output, Nat.le_trans hb.size h.size, fun k hk hne => (h.block k (Nat.lt_of_lt_of_le hk hb.size) hne).trans (hb.block k hk)⟩
section
variable {t : Tg} {T : TypeId} {B B2 : Nat} {r r' : Option Nat} {w w' : World} {v v' : Value} {xs ys : List Nd} {x y : Nd}
theorem OwnT.grow (h : OwnT t T B r w v xs) (hy : NK t B2 none w x y) (hB : B ≤ B2) (hv : ∀ k, v.ownBlock = some k → k < B2) (hr : ∀ g, r = some g → g < B2) (ho : w'.ownsRow B T t.sz v' (xs.length + 1) (xs.flatMap cellsN ++ cellsN y)) (hg : w.grownBy w' v.ownBlock)
   (hat : v'.ownBlock = v.ownBlock ∨ ∃ k, v'.ownBlock = some k ∧ w.heap.size ≤ k) (hm : xs.length + 1 ≤ 2000000) : OwnT t T B r w' v' (xs ++ [y]) := by
 have key : ∀ k j u, some k ≠ v.ownBlock → w.cell? ⟨k, j, none⟩ = some u → w'.cell? ⟨k, j, none⟩ = some u ∧ some k ≠ v'.ownBlock := by
   intro k j u hk hu
   have hlt := World.block_lt_of_cell? w (a := ⟨k, j, none⟩) hu
   simp only at hlt
   refine ⟨(World.cell?_of_block (a := ⟨k, j, none⟩) (hg.block k hlt hk)).trans hu, ?_⟩
   rcases hat with e | ⟨g, e, hg'⟩
   · rw [e]; exact hk
   · rw [e]; intro e'; injection e' with e'; omega
 refine ⟨by simpa using ho, fun z hz => ?_, fun ws hs => KdL_append (h.2.2.1 ws fun k j u hk hne hnr hu => ?_) ⟨hy.2.1 ws fun k j u hk _ hu => ?_, trivial⟩, by simpa using hm⟩
 · rcases List.mem_append.1 hz with hz | hz
   · exact h.2.1 z hz
   · rw [List.mem_singleton.1 hz]; exact hy.1
 · exact hs k j u hk (key k j u hne hu).2 hnr (key k j u hne hu).1
 · have hkv : some k ≠ v.ownBlock := by
     intro e
     have := hv k e.symm
     omega
   exact hs k j u (Nat.le_trans hB hk) (key k j u hkv hu).2 (fun e => by have := hr k e.symm; omega) (key k j u hkv hu).1
theorem OwnT.step {g : Option Nat} (h : OwnT t T B g w v ys) (hg : w.grownBy w' g) (hne : ∀ k, v.ownBlock = some k → g ≠ some k) (hr' : r' = g ∨ ∃ k, r' = some k ∧ w.heap.size ≤ k) : OwnT t T B r' w' v ys := by
 refine ⟨h.1.kept hg (by
   cases hv' : v.ownBlock with
   | none => exact .inl rfl
   | some k => exact .inr (fun e => hne k hv' e.symm)), h.2.1, fun ws hs => h.2.2.1 ws fun k j u hk n1 n2 hu => ?_, h.2.2.2⟩
 have hlt := World.block_lt_of_cell? w (a := ⟨k, j, none⟩) hu
 simp only at hlt
 refine hs k j u hk n1 ?_ ((World.cell?_of_block (a := ⟨k, j, none⟩) (hg.block k hlt n2)).trans hu)
 rcases hr' with e | ⟨q, e, hq⟩
 · rw [e]; exact n2
 · rw [e]; intro e'; injection e' with e'; omega
end
@[go_sem] theorem is_fd_fd (v : Value) (w : World) : (Instr.typeAssert (.iface 83 v) 71 83 true).run Tryz.prog w = .ok (.tuple #[v, .bool true]) w := by kernel_rfl
@[go_sem] theorem is_fd_mt (v : Value) (w : World) : (Instr.typeAssert (.iface 83 v) 71 52 true).run Tryz.prog w = .ok (.tuple #[.agg #[.bool false, .bool false, .string ⟨#[]⟩, .string ⟨#[]⟩, .slice none 0 0, .slice none 0 0], .bool false]) w := by kernel_rfl
@[go_sem] theorem is_mt_fd (v : Value) (w : World) : (Instr.typeAssert (.iface 52 v) 71 83 true).run Tryz.prog w = .ok (.tuple #[.agg #[.bool false, .string ⟨#[]⟩, .string ⟨#[]⟩, .slice none 0 0], .bool false]) w := by kernel_rfl
@[go_sem] theorem is_mt_mt (v : Value) (w : World) : (Instr.typeAssert (.iface 52 v) 71 52 true).run Tryz.prog w = .ok (.tuple #[v, .bool true]) w := by kernel_rfl
def WiF (w : World) (B : Nat) (nm sp : ByteArray) (vf vm : Value) (fs gs : List Nd) (y : Nd) (e : Ending) (w' : World) : Prop := ∃ v', e = .returned (.agg #[.string nm, .string sp, v', vm]) ∧ OwnT .fd 83 B vm.ownBlock w' v' (fs ++ [y]) ∧ OwnT .mt 52 B v'.ownBlock w' vm gs ∧ (∀ k, v'.ownBlock = some k → vm.ownBlock ≠ some k) ∧ w.grownBy w' vf.ownBlock
def WiM (w : World) (B : Nat) (nm sp : ByteArray) (vf vm : Value) (fs gs : List Nd) (y : Nd) (e : Ending) (w' : World) : Prop := ∃ v', e = .returned (.agg #[.string nm, .string sp, vf, v']) ∧ OwnT .fd 83 B v'.ownBlock w' vf fs ∧ OwnT .mt 52 B vf.ownBlock w' v' (gs ++ [y]) ∧ (∀ k, vf.ownBlock = some k → v'.ownBlock ≠ some k) ∧ w.grownBy w' vm.ownBlock
theorem with_F (w : World) (B B2 : Nat) (nm sp : ByteArray) (Af Am : Option Addr) (cf cm : Nat) (fs gs : List Nd) (x : Nd) (st : Bool) (ty nm' : ByteArray) (A1 : Option Addr) (c1 : Nat) (l : List Nd) (hf : OwnT .fd 83 B (Value.slice Am gs.length cm).ownBlock w (Value.slice Af fs.length cf) fs) (hg : OwnT .mt 52 B (Value.slice Af fs.length cf).ownBlock w (Value.slice Am gs.length cm) gs) (hd : ∀ k, (Value.slice Af fs.length cf).ownBlock = some k → (Value.slice Am gs.length cm).ownBlock ≠ some k)
   (hy : NK .fd B2 none w x (.fd st ty nm' (.slice A1 l.length c1) l)) (hB2 : B ≤ B2) (hvf : ∀ k, (Value.slice Af fs.length cf).ownBlock = some k → k < B2) (hvm : ∀ k, (Value.slice Am gs.length cm).ownBlock = some k → k < B2) (hBw : B ≤ w.heap.size) (hB2w : B2 ≤ w.heap.size) (hlen : fs.length ≤ 1000001) :
   Calls Tryz.prog 40 #[.agg #[.string nm, .string sp, .slice Af fs.length cf, .slice Am gs.length cm], .iface 83 (.agg #[.bool st, .string ty, .string nm', .slice A1 l.length c1])] w (WiF w B nm sp (Value.slice Af fs.length cf) (Value.slice Am gs.length cm) fs gs (.fd st ty nm' (.slice A1 l.length c1) l)) := by
 obtain ⟨i0, hi, hz0, hzz1, hzz2⟩ := info_parts Tryz.infoFd
 have HF := Lib.hid hf; have HG := Lib.hid hg; have HD := Lib.hid hd; have HY := Lib.hid hy; have HVF := Lib.hid hvf; have HVM := Lib.hid hvm
 clear hf hg hd hy hvf hvm
 obtain ⟨Wa, ha⟩ : ∃ W, w.alloc (.cells #[.string nm, .string sp, .slice Af fs.length cf, .slice Am gs.length cm] 48) = W := ⟨_, rfl⟩
 have ka : Below w.heap.size w Wa := by rw [← ha]; exact (Below.refl _ _).alloc (Nat.le_refl _) _
 have xa : Bx Wa w.heap.size #[.string nm, .string sp, .slice Af fs.length cf, .slice Am gs.length cm] 48 := by rw [← ha]; exact Bx.new _ _ _
 have sa : Wa.heap.size = w.heap.size + 1 := by rw [← ha]; simp
 obtain ⟨Wb, hb⟩ : ∃ W, Wa.alloc (.cells #[.string ⟨#[]⟩, .string ⟨#[]⟩, .slice none 0 0, .slice none 0 0] 48) = W := ⟨_, rfl⟩
 have kb : Below Wa.heap.size Wa Wb := by rw [← hb]; exact (Below.refl _ _).alloc (Nat.le_refl _) _
 have xb : Bx Wb (w.heap.size + 1) #[.string ⟨#[]⟩, .string ⟨#[]⟩, .slice none 0 0, .slice none 0 0] 48 := by rw [← hb, ← sa]; exact Bx.new _ _ _
 have sb : Wb.heap.size = w.heap.size + 2 := by rw [← hb]; simp [sa]
 obtain ⟨Wd, hd⟩ : ∃ W, Wb.alloc (.cells #[.bool st, .string ty, .string nm', .slice A1 l.length c1] 83) = W := ⟨_, rfl⟩
 have kd : Below Wb.heap.size Wb Wd := by rw [← hd]; exact (Below.refl _ _).alloc (Nat.le_refl _) _
 have xd : Bx Wd (w.heap.size + 2) #[.bool st, .string ty, .string nm', .slice A1 l.length c1] 83 := by rw [← hd, ← sb]; exact Bx.new _ _ _
 have sd : Wd.heap.size = w.heap.size + 3 := by rw [← hd]; simp [sb]
 have FACTS : Bx Wd w.heap.size #[.string nm, .string sp, .slice Af fs.length cf, .slice Am gs.length cm] 48 ∧ Bx Wd (w.heap.size + 1) #[.string ⟨#[]⟩, .string ⟨#[]⟩, .slice none 0 0, .slice none 0 0] 48 ∧ Bx Wd (w.heap.size + 2) #[.bool st, .string ty, .string nm', .slice A1 l.length c1] 83 ∧ Below w.heap.size w Wd ∧ Hid (Wd.heap.size = w.heap.size + 3) := by
   refine ⟨(xa.next kb).next kd, xb.next kd, xd, (ka.trans (kb.mono ka.size)).trans (kd.mono (Nat.le_trans ka.size kb.size)), Lib.hid sd⟩
 clear xa xb xd ka kb kd sa sb sd
 subst ha hb hd
 go_enter Tryz.func40, Tryz.ntmps40
 go_upto_region 2 with (fail)
 refine gen_world (fun W => Bx W w.heap.size #[.string nm, .string sp, .slice Af fs.length cf, .slice Am gs.length cm] 48 ∧ Bx W (w.heap.size + 1) #[.string ⟨#[]⟩, .string ⟨#[]⟩, .slice none 0 0, .slice none 0 0] 48 ∧ Bx W (w.heap.size + 2) #[.bool st, .string ty, .string nm', .slice A1 l.length c1] 83 ∧ Below w.heap.size w W ∧ Hid (W.heap.size = w.heap.size + 3)) FACTS ?_
 clear FACTS
 rintro W ⟨x1, x2, x3, hbw, HSZ⟩
 have HX1 := Lib.hid x1; have HX2 := Lib.hid x2; have HBW := Lib.hid hbw
 obtain ⟨c0, c1', c2', c3'⟩ := x1.all_4
 obtain ⟨y0, y1, y2, y3⟩ := x3.all_4
 have hba : Below W.heap.size W (W.alloc (.cells #[.bool st, .string ty, .string nm', .slice A1 l.length c1] 83)) := (Below.refl _ _).alloc (Nat.le_refl _) _
 have HO2 := Lib.hid (own_next (own_next HF.out.1 hbw) hba)
 have HYR := Lib.hid (OwnT.one (T := 83) ((HY.out.below hbw).mono (Nat.le_refl _)) (Nat.le_trans hB2w hbw.size))
 simp only [cellsN] at HYR
 have HGB := Lib.hid (hbw.trans (hba.mono hbw.size))
 have hwz : B ≤ (W.alloc (.cells #[.bool st, .string ty, .string nm', .slice A1 l.length c1] 83)).heap.size := Nat.le_trans hBw (Nat.le_trans hbw.size hba.size)
 clear x1 x2 x3 hbw hba
 go_wp2_with (at_builtin; refine append_any rfl (.tmp 16) (.tmp 18) 45 rfl B 83 i0 _ 4 64 Tryz.underlying45 hi hz0 hzz1 hzz2 rfl (by decide) _ _ _ rfl HO2.out B2 _ _ _ rfl HYR.out.1 HYR.out.one' ?c3 ?c4 hwz ?_)
 case c3 => unfold maxLen; simp; omega
 case c4 => simp; omega
 intro v2 w4 hown2 hgrow hat
 have hown3 : w4.ownsRow B 83 4 v2 (fs.length + 1) (fs.flatMap cellsN ++ cellsN (.fd st ty nm' (.slice A1 l.length c1) l)) := by simpa using hown2
 obtain ⟨A3, c3, rfl, _⟩ := own_form hown3
 have G4 := below_grown' HGB.out hgrow
 have hne0 : ∀ k, (Value.slice Af fs.length cf).ownBlock = some k → k < w.heap.size := fun k hk => Nat.lt_of_lt_of_le (HVF.out k hk) hB2w
 have hszz : w.heap.size + 3 < (W.alloc (.cells #[.bool st, .string ty, .string nm', .slice A1 l.length c1] 83)).heap.size := by rw [World.size_alloc, HSZ.out]; omega
 have kk : ∀ b cs T, Bx W b cs T → w.heap.size ≤ b → Bx w4 b cs T := fun b cs T hx hbb => (hgrow.block b (hx.next ((Below.refl _ _).alloc (Nat.le_refl _) _)).lt (fun e => by have := hne0 b e.symm; omega)).trans (hx.next ((Below.refl _ _).alloc (Nat.le_refl _) _))
 have x1 := kk _ _ _ HX1.out (Nat.le_refl _)
 have HX24 := Lib.hid (kk _ _ _ HX2.out (by omega))
 obtain ⟨d0, d1, d2, d3⟩ := x1.all_4
 have gd := x1.fro 2
 have HGR := Lib.hid G4
 have HOW := Lib.hid hown3
 have HAT : Hid ((Value.slice A3 (fs.length + 1) c3).ownBlock = (Value.slice Af fs.length cf).ownBlock ∨ ∃ k, (Value.slice A3 (fs.length + 1) c3).ownBlock = some k ∧ w.heap.size + 3 < k) := Lib.hid (hat.imp id fun e => ⟨_, e, by simpa using hszz⟩)
 have HX14 := Lib.hid x1
 have HNE0 := Lib.hid hne0
 have hnew : Hid (∀ b, w.heap.size ≤ b → b ≤ w.heap.size + 3 → (Value.slice A3 (fs.length + 1) c3).ownBlock ≠ some b) := by
   show ∀ b, _
   intro b h1 h2 e
   rcases HAT.out with e2 | ⟨k, e2, hk⟩
   · rw [e] at e2; have := HNE0.out _ e2.symm; omega
   · rw [e] at e2; injection e2 with e2; omega
 clear kk x1 hown2 hown3 hgrow hat G4 HX1 HX2 HO2 HYR hne0 hszz
 have F5 : Bx (w4.setCell ⟨w.heap.size, 2, none⟩ (Value.slice A3 (fs.length + 1) c3)) w.heap.size #[.string nm, .string sp, .slice A3 (fs.length + 1) c3, .slice Am gs.length cm] 48 ∧ Bx (w4.setCell ⟨w.heap.size, 2, none⟩ (Value.slice A3 (fs.length + 1) c3)) (w.heap.size + 1) #[.string ⟨#[]⟩, .string ⟨#[]⟩, .slice none 0 0, .slice none 0 0] 48 ∧ w.grownBy (w4.setCell ⟨w.heap.size, 2, none⟩ (Value.slice A3 (fs.length + 1) c3)) (Value.slice Af fs.length cf).ownBlock ∧ World.ownsRow (w4.setCell ⟨w.heap.size, 2, none⟩ (Value.slice A3 (fs.length + 1) c3)) B 83 4 (Value.slice A3 (fs.length + 1) c3) (fs.length + 1) (fs.flatMap cellsN ++ cellsN (.fd st ty nm' (.slice A1 l.length c1) l)) := by
   have hg5 : w4.grownBy (w4.setCell ⟨w.heap.size, 2, none⟩ (Value.slice A3 (fs.length + 1) c3)) (some w.heap.size) := grown_set_at _ _ _ _
   refine ⟨?_, Bx.grown HX24.out hg5 (by omega), grown_more HGR.out hg5 (Nat.le_refl _), HOW.out.kept hg5 (.inr (hnew.out _ (Nat.le_refl _) (by omega)))⟩
   have := HX14.out.set 2 (Value.slice A3 (fs.length + 1) c3)
   simpa using this
 go_upto_region 4 with (fail)
 refine gen_world (fun W => Bx W w.heap.size #[.string nm, .string sp, .slice A3 (fs.length + 1) c3, .slice Am gs.length cm] 48 ∧ Bx W (w.heap.size + 1) #[.string ⟨#[]⟩, .string ⟨#[]⟩, .slice none 0 0, .slice none 0 0] 48 ∧ w.grownBy W (Value.slice Af fs.length cf).ownBlock ∧ World.ownsRow W B 83 4 (Value.slice A3 (fs.length + 1) c3) (fs.length + 1) (fs.flatMap cellsN ++ cellsN (.fd st ty nm' (.slice A1 l.length c1) l))) F5 ?_
 clear F5 d0 d1 d2 d3 gd HX14 HX24 HGR HOW
 rintro W5 ⟨x15, x25, g5, o5⟩
 have HX15 := Lib.hid x15; have HX25 := Lib.hid x25; have HG5 := Lib.hid g5; have HO5 := Lib.hid o5
 clear x15 x25 g5 o5
 go_upto_region 7 with (fail)
 have F6 : Bx (W5.alloc (.cells #[.bool false, .bool false, .string ⟨#[]⟩, .string ⟨#[]⟩, .slice none 0 0, .slice none 0 0] 52)) w.heap.size #[.string nm, .string sp, .slice A3 (fs.length + 1) c3, .slice Am gs.length cm] 48 ∧ Bx (W5.alloc (.cells #[.bool false, .bool false, .string ⟨#[]⟩, .string ⟨#[]⟩, .slice none 0 0, .slice none 0 0] 52)) (w.heap.size + 1) #[.string ⟨#[]⟩, .string ⟨#[]⟩, .slice none 0 0, .slice none 0 0] 48 ∧ w.grownBy (W5.alloc (.cells #[.bool false, .bool false, .string ⟨#[]⟩, .string ⟨#[]⟩, .slice none 0 0, .slice none 0 0] 52)) (Value.slice Af fs.length cf).ownBlock ∧ World.ownsRow (W5.alloc (.cells #[.bool false, .bool false, .string ⟨#[]⟩, .string ⟨#[]⟩, .slice none 0 0, .slice none 0 0] 52)) B 83 4 (Value.slice A3 (fs.length + 1) c3) (fs.length + 1) (fs.flatMap cellsN ++ cellsN (.fd st ty nm' (.slice A1 l.length c1) l)) := by
   have h6 : Below W5.heap.size W5 (W5.alloc (.cells #[.bool false, .bool false, .string ⟨#[]⟩, .string ⟨#[]⟩, .slice none 0 0, .slice none 0 0] 52)) := (Below.refl _ _).alloc (Nat.le_refl _) _
   exact ⟨HX15.out.next h6, HX25.out.next h6, grownB_below HG5.out h6, own_next HO5.out h6⟩
 refine gen_world (fun W => Bx W w.heap.size #[.string nm, .string sp, .slice A3 (fs.length + 1) c3, .slice Am gs.length cm] 48 ∧ Bx W (w.heap.size + 1) #[.string ⟨#[]⟩, .string ⟨#[]⟩, .slice none 0 0, .slice none 0 0] 48 ∧ w.grownBy W (Value.slice Af fs.length cf).ownBlock ∧ World.ownsRow W B 83 4 (Value.slice A3 (fs.length + 1) c3) (fs.length + 1) (fs.flatMap cellsN ++ cellsN (.fd st ty nm' (.slice A1 l.length c1) l))) F6 ?_
 clear F6 HX15 HX25 HG5 HO5
 rintro W6 ⟨x15, x25, g5, o5⟩
 have HX15 := Lib.hid x15; have HX25 := Lib.hid x25; have HG5 := Lib.hid g5; have HO5 := Lib.hid o5
 clear x15 x25 g5 o5
 obtain ⟨e0, e1, e2, e3⟩ := HX15.out.all_4
 obtain ⟨r0, r1, r2, r3⟩ := HX25.out.all_4
 have g0 := HX25.out.fro 0; have g1 := HX25.out.fro 1; have g2 := HX25.out.fro 2; have g3 := HX25.out.fro 3
 have HGX := Lib.hid (grown_4 W6 (w.heap.size + 1) (.string nm) (.string sp) (.slice A3 (fs.length + 1) c3) (.slice Am gs.length cm))
 go_wp2_with fail
 obtain ⟨z0, z1, z2, z3⟩ := (HX25.out.to_4 (.string nm) (.string sp) (.slice A3 (fs.length + 1) c3) (.slice Am gs.length cm)).all_4
 (try simp only [Exit.inBlock, Exit.then])
 refine bodyPost_ret (v := .agg #[.string nm, .string sp, .slice A3 (fs.length + 1) c3, .slice Am gs.length cm]) (by simp [results, Tryz.results40, go_sem, z0, z1, z2, z3]) rfl ?_
 have G7 := grown_more HG5.out HGX.out (by omega)
 have O7 := HO5.out.kept HGX.out (.inr (hnew.out _ (by omega) (by omega)))
 have hat7 : (Value.slice A3 (fs.length + 1) c3).ownBlock = (Value.slice Af fs.length cf).ownBlock ∨ ∃ k, (Value.slice A3 (fs.length + 1) c3).ownBlock = some k ∧ w.heap.size ≤ k := HAT.out.imp id fun ⟨k, e, hk⟩ => ⟨k, e, by omega⟩
 have RO := OwnT.grow HF.out HY.out hB2 HVF.out HVM.out O7 G7 hat7 (by omega)
 refine ⟨_, rfl, RO, OwnT.step HG.out G7 (fun k hk e => HD.out k e hk) hat7, fun k hk e => ?_, G7⟩
 rcases hat7 with e2 | ⟨q, e2, hq⟩
 · exact HD.out k (e2.symm.trans hk) e
 · rw [hk] at e2; injection e2 with e2; have := HVM.out k e; omega
theorem with_M (w : World) (B B2 : Nat) (nm sp : ByteArray) (Af Am : Option Addr) (cf cm : Nat) (fs gs : List Nd) (x : Nd) (st ct : Bool) (ty nm' : ByteArray) (A1 A2 : Option Addr) (c1 c2 : Nat) (ps : List Pm) (l : List Nd) (hf : OwnT .fd 83 B (Value.slice Am gs.length cm).ownBlock w (Value.slice Af fs.length cf) fs) (hg : OwnT .mt 52 B (Value.slice Af fs.length cf).ownBlock w (Value.slice Am gs.length cm) gs) (hd : ∀ k, (Value.slice Af fs.length cf).ownBlock = some k → (Value.slice Am gs.length cm).ownBlock ≠ some k)
   (hy : NK .mt B2 none w x (.mt st ct ty nm' (.slice A1 ps.length c1) ps (.slice A2 l.length c2) l)) (hB2 : B ≤ B2) (hvf : ∀ k, (Value.slice Af fs.length cf).ownBlock = some k → k < B2) (hvm : ∀ k, (Value.slice Am gs.length cm).ownBlock = some k → k < B2) (hBw : B ≤ w.heap.size) (hB2w : B2 ≤ w.heap.size) (hlen : gs.length ≤ 1000001) :
   Calls Tryz.prog 40 #[.agg #[.string nm, .string sp, .slice Af fs.length cf, .slice Am gs.length cm], .iface 52 (.agg #[.bool st, .bool ct, .string ty, .string nm', .slice A1 ps.length c1, .slice A2 l.length c2])] w (WiM w B nm sp (Value.slice Af fs.length cf) (Value.slice Am gs.length cm) fs gs (.mt st ct ty nm' (.slice A1 ps.length c1) ps (.slice A2 l.length c2) l)) := by
 obtain ⟨i0, hi, hz0, hzz1, hzz2⟩ := info_parts Tryz.infoMt
 have HF := Lib.hid hf; have HG := Lib.hid hg; have HD := Lib.hid hd; have HY := Lib.hid hy; have HVF := Lib.hid hvf; have HVM := Lib.hid hvm
 clear hf hg hd hy hvf hvm
 obtain ⟨Wa, ha⟩ : ∃ W, w.alloc (.cells #[.string nm, .string sp, .slice Af fs.length cf, .slice Am gs.length cm] 48) = W := ⟨_, rfl⟩
 have ka : Below w.heap.size w Wa := by rw [← ha]; exact (Below.refl _ _).alloc (Nat.le_refl _) _
 have xa : Bx Wa w.heap.size #[.string nm, .string sp, .slice Af fs.length cf, .slice Am gs.length cm] 48 := by rw [← ha]; exact Bx.new _ _ _
 have sa : Wa.heap.size = w.heap.size + 1 := by rw [← ha]; simp
 obtain ⟨Wb, hb⟩ : ∃ W, Wa.alloc (.cells #[.string ⟨#[]⟩, .string ⟨#[]⟩, .slice none 0 0, .slice none 0 0] 48) = W := ⟨_, rfl⟩
 have kb : Below Wa.heap.size Wa Wb := by rw [← hb]; exact (Below.refl _ _).alloc (Nat.le_refl _) _
 have xb : Bx Wb (w.heap.size + 1) #[.string ⟨#[]⟩, .string ⟨#[]⟩, .slice none 0 0, .slice none 0 0] 48 := by rw [← hb, ← sa]; exact Bx.new _ _ _
 have sb : Wb.heap.size = w.heap.size + 2 := by rw [← hb]; simp [sa]
 obtain ⟨Wc, hc⟩ : ∃ W, Wb.alloc (.cells #[.bool false, .string ⟨#[]⟩, .string ⟨#[]⟩, .slice none 0 0] 83) = W := ⟨_, rfl⟩
 have kc : Below Wb.heap.size Wb Wc := by rw [← hc]; exact (Below.refl _ _).alloc (Nat.le_refl _) _
 have sc : Wc.heap.size = w.heap.size + 3 := by rw [← hc]; simp [sb]
 obtain ⟨Wd, hd⟩ : ∃ W, Wc.alloc (.cells #[.bool st, .bool ct, .string ty, .string nm', .slice A1 ps.length c1, .slice A2 l.length c2] 52) = W := ⟨_, rfl⟩
 have kd : Below Wc.heap.size Wc Wd := by rw [← hd]; exact (Below.refl _ _).alloc (Nat.le_refl _) _
 have xd : Bx Wd (w.heap.size + 3) #[.bool st, .bool ct, .string ty, .string nm', .slice A1 ps.length c1, .slice A2 l.length c2] 52 := by rw [← hd, ← sc]; exact Bx.new _ _ _
 have sd : Wd.heap.size = w.heap.size + 4 := by rw [← hd]; simp [sc]
 have FACTS : Bx Wd w.heap.size #[.string nm, .string sp, .slice Af fs.length cf, .slice Am gs.length cm] 48 ∧ Bx Wd (w.heap.size + 1) #[.string ⟨#[]⟩, .string ⟨#[]⟩, .slice none 0 0, .slice none 0 0] 48 ∧ Bx Wd (w.heap.size + 3) #[.bool st, .bool ct, .string ty, .string nm', .slice A1 ps.length c1, .slice A2 l.length c2] 52 ∧ Below w.heap.size w Wd ∧ Hid (Wd.heap.size = w.heap.size + 4) := by
   refine ⟨((xa.next kb).next kc).next kd, (xb.next kc).next kd, xd, ((ka.trans (kb.mono ka.size)).trans (kc.mono (Nat.le_trans ka.size kb.size))).trans (kd.mono (Nat.le_trans (Nat.le_trans ka.size kb.size) kc.size)), Lib.hid sd⟩
 clear xa xb xd ka kb kd sa sb sd kc sc
 subst ha hb hc hd
 go_enter Tryz.func40, Tryz.ntmps40
 go_upto_region 5 with (fail)
 refine gen_world (fun W => Bx W w.heap.size #[.string nm, .string sp, .slice Af fs.length cf, .slice Am gs.length cm] 48 ∧ Bx W (w.heap.size + 1) #[.string ⟨#[]⟩, .string ⟨#[]⟩, .slice none 0 0, .slice none 0 0] 48 ∧ Bx W (w.heap.size + 3) #[.bool st, .bool ct, .string ty, .string nm', .slice A1 ps.length c1, .slice A2 l.length c2] 52 ∧ Below w.heap.size w W ∧ Hid (W.heap.size = w.heap.size + 4)) FACTS ?_
 clear FACTS
 rintro W ⟨x1, x2, x3, hbw, HSZ⟩
 have HX1 := Lib.hid x1; have HX2 := Lib.hid x2; have HBW := Lib.hid hbw
 obtain ⟨c0, c1', c2', c3'⟩ := x1.all_4
 obtain ⟨y0, y1, y2, y3, y4, y5⟩ := x3.all_6
 have hba : Below W.heap.size W (W.alloc (.cells #[.bool st, .bool ct, .string ty, .string nm', .slice A1 ps.length c1, .slice A2 l.length c2] 52)) := (Below.refl _ _).alloc (Nat.le_refl _) _
 have HO2 := Lib.hid (own_next (own_next HG.out.1 hbw) hba)
 have HYR := Lib.hid (OwnT.one (T := 52) ((HY.out.below hbw).mono (Nat.le_refl _)) (Nat.le_trans hB2w hbw.size))
 simp only [cellsN] at HYR
 have HGB := Lib.hid (hbw.trans (hba.mono hbw.size))
 have hwz : B ≤ (W.alloc (.cells #[.bool st, .bool ct, .string ty, .string nm', .slice A1 ps.length c1, .slice A2 l.length c2] 52)).heap.size := Nat.le_trans hBw (Nat.le_trans hbw.size hba.size)
 clear x1 x2 x3 hbw hba
 go_wp2_with (at_builtin; refine append_any rfl (.tmp 28) (.tmp 30) 46 rfl B 52 i0 _ 6 88 Tryz.underlying46 hi hz0 hzz1 hzz2 rfl (by decide) _ _ _ rfl HO2.out B2 _ _ _ rfl HYR.out.1 HYR.out.one' ?c3 ?c4 hwz ?_)
 case c3 => unfold maxLen; simp; omega
 case c4 => simp; omega
 intro v2 w4 hown2 hgrow hat
 have hown3 : w4.ownsRow B 52 6 v2 (gs.length + 1) (gs.flatMap cellsN ++ cellsN (.mt st ct ty nm' (.slice A1 ps.length c1) ps (.slice A2 l.length c2) l)) := by simpa using hown2
 obtain ⟨A3, c3, rfl, _⟩ := own_form hown3
 have G4 := below_grown' HGB.out hgrow
 have hne0 : ∀ k, (Value.slice Am gs.length cm).ownBlock = some k → k < w.heap.size := fun k hk => Nat.lt_of_lt_of_le (HVM.out k hk) hB2w
 have hszz : w.heap.size + 4 < (W.alloc (.cells #[.bool st, .bool ct, .string ty, .string nm', .slice A1 ps.length c1, .slice A2 l.length c2] 52)).heap.size := by rw [World.size_alloc, HSZ.out]; omega
 have kk : ∀ b cs T, Bx W b cs T → w.heap.size ≤ b → Bx w4 b cs T := fun b cs T hx hbb => (hgrow.block b (hx.next ((Below.refl _ _).alloc (Nat.le_refl _) _)).lt (fun e => by have := hne0 b e.symm; omega)).trans (hx.next ((Below.refl _ _).alloc (Nat.le_refl _) _))
 have x1 := kk _ _ _ HX1.out (Nat.le_refl _)
 have HX24 := Lib.hid (kk _ _ _ HX2.out (by omega))
 obtain ⟨d0, d1, d2, d3⟩ := x1.all_4
 have gd := x1.fro 3
 have HGR := Lib.hid G4
 have HOW := Lib.hid hown3
 have HAT : Hid ((Value.slice A3 (gs.length + 1) c3).ownBlock = (Value.slice Am gs.length cm).ownBlock ∨ ∃ k, (Value.slice A3 (gs.length + 1) c3).ownBlock = some k ∧ w.heap.size + 4 < k) := Lib.hid (hat.imp id fun e => ⟨_, e, by simpa using hszz⟩)
 have HX14 := Lib.hid x1
 have HNE0 := Lib.hid hne0
 have hnew : Hid (∀ b, w.heap.size ≤ b → b ≤ w.heap.size + 4 → (Value.slice A3 (gs.length + 1) c3).ownBlock ≠ some b) := by
   show ∀ b, _
   intro b h1 h2 e
   rcases HAT.out with e2 | ⟨k, e2, hk⟩
   · rw [e] at e2; have := HNE0.out _ e2.symm; omega
   · rw [e] at e2; injection e2 with e2; omega
 clear kk x1 hown2 hown3 hgrow hat G4 HX1 HX2 HO2 HYR hne0 hszz
 have F5 : Bx (w4.setCell ⟨w.heap.size, 3, none⟩ (Value.slice A3 (gs.length + 1) c3)) w.heap.size #[.string nm, .string sp, .slice Af fs.length cf, .slice A3 (gs.length + 1) c3] 48 ∧ Bx (w4.setCell ⟨w.heap.size, 3, none⟩ (Value.slice A3 (gs.length + 1) c3)) (w.heap.size + 1) #[.string ⟨#[]⟩, .string ⟨#[]⟩, .slice none 0 0, .slice none 0 0] 48 ∧ w.grownBy (w4.setCell ⟨w.heap.size, 3, none⟩ (Value.slice A3 (gs.length + 1) c3)) (Value.slice Am gs.length cm).ownBlock ∧ World.ownsRow (w4.setCell ⟨w.heap.size, 3, none⟩ (Value.slice A3 (gs.length + 1) c3)) B 52 6 (Value.slice A3 (gs.length + 1) c3) (gs.length + 1) (gs.flatMap cellsN ++ cellsN (.mt st ct ty nm' (.slice A1 ps.length c1) ps (.slice A2 l.length c2) l)) := by
   have hg5 : w4.grownBy (w4.setCell ⟨w.heap.size, 3, none⟩ (Value.slice A3 (gs.length + 1) c3)) (some w.heap.size) := grown_set_at _ _ _ _
   refine ⟨?_, Bx.grown HX24.out hg5 (by omega), grown_more HGR.out hg5 (Nat.le_refl _), HOW.out.kept hg5 (.inr (hnew.out _ (Nat.le_refl _) (by omega)))⟩
   have := HX14.out.set 3 (Value.slice A3 (gs.length + 1) c3)
   simpa using this
 go_upto_region 7 with (fail)
 refine gen_world (fun W => Bx W w.heap.size #[.string nm, .string sp, .slice Af fs.length cf, .slice A3 (gs.length + 1) c3] 48 ∧ Bx W (w.heap.size + 1) #[.string ⟨#[]⟩, .string ⟨#[]⟩, .slice none 0 0, .slice none 0 0] 48 ∧ w.grownBy W (Value.slice Am gs.length cm).ownBlock ∧ World.ownsRow W B 52 6 (Value.slice A3 (gs.length + 1) c3) (gs.length + 1) (gs.flatMap cellsN ++ cellsN (.mt st ct ty nm' (.slice A1 ps.length c1) ps (.slice A2 l.length c2) l))) F5 ?_
 clear F5 d0 d1 d2 d3 gd HX14 HX24 HGR HOW
 rintro W5 ⟨x15, x25, g5, o5⟩
 have HX15 := Lib.hid x15; have HX25 := Lib.hid x25; have HG5 := Lib.hid g5; have HO5 := Lib.hid o5
 clear x15 x25 g5 o5
 obtain ⟨e0, e1, e2, e3⟩ := HX15.out.all_4
 obtain ⟨r0, r1, r2, r3⟩ := HX25.out.all_4
 have g0 := HX25.out.fro 0; have g1 := HX25.out.fro 1; have g2 := HX25.out.fro 2; have g3 := HX25.out.fro 3
 have HGX := Lib.hid (grown_4 W5 (w.heap.size + 1) (.string nm) (.string sp) (.slice Af fs.length cf) (.slice A3 (gs.length + 1) c3))
 go_wp2_with fail
 obtain ⟨z0, z1, z2, z3⟩ := (HX25.out.to_4 (.string nm) (.string sp) (.slice Af fs.length cf) (.slice A3 (gs.length + 1) c3)).all_4
 (try simp only [Exit.inBlock, Exit.then])
 refine bodyPost_ret (v := .agg #[.string nm, .string sp, .slice Af fs.length cf, .slice A3 (gs.length + 1) c3]) (by simp [results, Tryz.results40, go_sem, z0, z1, z2, z3]) rfl ?_
 have G7 := grown_more HG5.out HGX.out (by omega)
 have O7 := HO5.out.kept HGX.out (.inr (hnew.out _ (by omega) (by omega)))
 have hat7 : (Value.slice A3 (gs.length + 1) c3).ownBlock = (Value.slice Am gs.length cm).ownBlock ∨ ∃ k, (Value.slice A3 (gs.length + 1) c3).ownBlock = some k ∧ w.heap.size ≤ k := HAT.out.imp id fun ⟨k, e, hk⟩ => ⟨k, e, by omega⟩
 have RO := OwnT.grow HG.out HY.out hB2 HVM.out HVF.out O7 G7 hat7 (by omega)
 refine ⟨_, rfl, OwnT.step HF.out G7 (fun k hk e => HD.out k hk e) hat7, RO, fun k hk e => ?_, G7⟩
 rcases hat7 with e2 | ⟨q, e2, hq⟩
 · exact HD.out k hk (e2.symm.trans e)
 · rw [e] at e2; injection e2 with e2; have := HVF.out k hk; omega
end
section
open Go.RowKit
theorem MbC.fd {W0 w w' : World} {c : Nat} {r : Nd × RS} {e : Ending} (h : MbC W0 c w r e w') (hF : isF r.1 = true) : ∃ (st : Bool) (ty nm : ByteArray) (A1 : Option Addr) (c1 : Nat) (l : List Nd), e = .returned (.iface 83 (.agg #[.bool st, .string ty, .string nm, .slice A1 l.length c1])) ∧ NK .fd w.heap.size none w' r.1 (.fd st ty nm (.slice A1 l.length c1) l) ∧ Mv W0 c r.2 w w' := by
 obtain ⟨y, hm, ⟨rfl, ⟨st, ty, nm, A1, c1, l, rfl⟩, hk⟩ | ⟨rfl, ⟨st, ct, ty, nm, A1, A2, c1, c2, ps, l, rfl⟩, hk⟩⟩ := h
 · exact ⟨st, ty, nm, A1, c1, l, rfl, hk, hm⟩
 · exfalso
   have hb := hk.2.2
   revert hF hb
   cases r.1 <;> simp [isF, bareN]
theorem MbC.mt {W0 w w' : World} {c : Nat} {r : Nd × RS} {e : Ending} (h : MbC W0 c w r e w') (hF : isF r.1 = false) : ∃ (st ct : Bool) (ty nm : ByteArray) (A1 A2 : Option Addr) (c1 c2 : Nat) (ps : List Pm) (l : List Nd), e = .returned (.iface 52 (.agg #[.bool st, .bool ct, .string ty, .string nm, .slice A1 ps.length c1, .slice A2 l.length c2])) ∧ NK .mt w.heap.size none w' r.1 (.mt st ct ty nm (.slice A1 ps.length c1) ps (.slice A2 l.length c2) l) ∧ Mv W0 c r.2 w w' := by
 obtain ⟨y, hm, ⟨rfl, ⟨st, ty, nm, A1, c1, l, rfl⟩, hk⟩ | ⟨rfl, ⟨st, ct, ty, nm, A1, A2, c1, c2, ps, l, rfl⟩, hk⟩⟩ := h
 · exfalso
   have hb := hk.2.2
   revert hF hb
   cases r.1 <;> simp [isF, bareN]
 · exact ⟨st, ct, ty, nm, A1, A2, c1, c2, ps, l, rfl, hk, hm⟩
structure ClsAt (W0 w : World) (c bc : Nat) (s : RS) (nm sp : ByteArray) (f g : List Nd) (wr : World) (Af Am : Option Addr) (cf cm : Nat) (fs gs : List Nd) : Prop where
 mv : Mv W0 c s w wr
 bx : Bx wr bc #[.string nm, .string sp, .slice Af fs.length cf, .slice Am gs.length cm] 48
 rf : OwnT .fd 83 (bc + 1) (Value.slice Am gs.length cm).ownBlock wr (.slice Af fs.length cf) fs
 rm : OwnT .mt 52 (bc + 1) (Value.slice Af fs.length cf).ownBlock wr (.slice Am gs.length cm) gs
 ne : ∀ k, (Value.slice Af fs.length cf).ownBlock = some k → (Value.slice Am gs.length cm).ownBlock ≠ some k
 bf : bareL fs = bareL f
 bg : bareL gs = bareL g
 hb : w.heap.size < bc
 hc : c < w.heap.size
 rb : Bx wr w.heap.size #[.string ⟨#[]⟩, .string ⟨#[]⟩, .slice none 0 0, .slice none 0 0] 48
 hle : W0.heap.size ≤ w.heap.size
section
variable {W0 w wr w' : World} {c bc : Nat} {s s2 : RS} {nm sp : ByteArray} {f g : List Nd} {Af Am : Option Addr} {cf cm : Nat} {fs gs : List Nd}
theorem ClsAt.below (h : ClsAt W0 w c bc s nm sp f g wr Af Am cf cm fs gs) (hb : Below wr.heap.size wr w') : ClsAt W0 w c bc s nm sp f g w' Af Am cf cm fs gs :=
 ⟨h.mv.trans (Mv.below hb h.mv.2), h.bx.next hb, h.rf.below hb, h.rm.below hb, h.ne, h.bf, h.bg, h.hb, h.hc, h.rb.next hb, h.hle⟩
theorem ClsAt.move (h : ClsAt W0 w c bc s nm sp f g wr Af Am cf cm fs gs) (hm : Mv W0 c s2 wr w') : ClsAt W0 w c bc s2 nm sp f g w' Af Am cf cm fs gs :=
 have h1 := h.hb
 have h2 := h.hc
 ⟨h.mv.trans hm, Bx.grown h.bx hm.1 (by omega), h.rf.grown hm.1 (by omega), h.rm.grown hm.1 (by omega), h.ne, h.bf, h.bg, h.hb, h.hc, Bx.grown h.rb hm.1 (by omega), h.hle⟩
theorem ClsAt.boxF (h : ClsAt W0 w c bc s nm sp f g wr Af Am cf cm fs gs) (hg : wr.grownBy w' (Value.slice Af fs.length cf).ownBlock) : Bx w' bc #[.string nm, .string sp, .slice Af fs.length cf, .slice Am gs.length cm] 48 := by
 refine (hg.block bc h.bx.lt (fun e => ?_)).trans h.bx
 have := (h.rf.lt bc e.symm).1
 omega
theorem ClsAt.boxM (h : ClsAt W0 w c bc s nm sp f g wr Af Am cf cm fs gs) (hg : wr.grownBy w' (Value.slice Am gs.length cm).ownBlock) : Bx w' bc #[.string nm, .string sp, .slice Af fs.length cf, .slice Am gs.length cm] 48 := by
 refine (hg.block bc h.bx.lt (fun e => ?_)).trans h.bx
 have := (h.rm.lt bc e.symm).1
 omega
theorem ClsAt.putF {x y : Nd} {A3 : Option Addr} {c3 : Nat} (h : ClsAt W0 w c bc s nm sp f g wr Af Am cf cm fs gs) (hy : bareN y = bareN x) (ro : OwnT .fd 83 (bc + 1) (Value.slice Am gs.length cm).ownBlock w' (.slice A3 (fs ++ [y]).length c3) (fs ++ [y])) (rm : OwnT .mt 52 (bc + 1) (Value.slice A3 (fs ++ [y]).length c3).ownBlock w' (.slice Am gs.length cm) gs)
   (ne : ∀ k, (Value.slice A3 (fs ++ [y]).length c3).ownBlock = some k → (Value.slice Am gs.length cm).ownBlock ≠ some k) (hg : wr.grownBy w' (Value.slice Af fs.length cf).ownBlock) :
   ClsAt W0 w c bc s nm sp (f ++ [x]) g ((((w'.setCell ⟨bc, 0, none⟩ (.string nm)).setCell ⟨bc, 1, none⟩ (.string sp)).setCell ⟨bc, 2, none⟩ (.slice A3 (fs ++ [y]).length c3)).setCell ⟨bc, 3, none⟩ (.slice Am gs.length cm)) A3 Am c3 cm (fs ++ [y]) gs := by
 have h1 := h.hb
 have h2 := h.hc
 have h3 := h.hle
 have hx := h.boxF hg
 have hgg := grown_4 w' bc (.string nm) (.string sp) (.slice A3 (fs ++ [y]).length c3) (.slice Am gs.length cm)
 have hmv := Mv.row h.mv hg (fun k hk => by have := (h.rf.lt k hk).1; omega) (fun k hk => by have := (h.rf.lt k hk).1; omega) h.hc
 have hrb : Bx w' w.heap.size #[.string ⟨#[]⟩, .string ⟨#[]⟩, .slice none 0 0, .slice none 0 0] 48 := (hg.block _ h.rb.lt (fun e => by have := (h.rf.lt _ e.symm).1; omega)).trans h.rb
 exact ⟨Mv.over (Below.refl _ _) hmv hgg (by omega) h.hc, hx.to_4 _ _ _ _, ro.grown hgg (by omega), rm.grown hgg (by omega), ne, by rw [bareL_append, bareL_append, h.bf]; simp only [bareL]; rw [hy], h.bg, h.hb, h.hc, Bx.grown hrb hgg (by omega), h.hle⟩
theorem ClsAt.putM {x y : Nd} {A3 : Option Addr} {c3 : Nat} (h : ClsAt W0 w c bc s nm sp f g wr Af Am cf cm fs gs) (hy : bareN y = bareN x) (rf : OwnT .fd 83 (bc + 1) (Value.slice A3 (gs ++ [y]).length c3).ownBlock w' (.slice Af fs.length cf) fs) (ro : OwnT .mt 52 (bc + 1) (Value.slice Af fs.length cf).ownBlock w' (.slice A3 (gs ++ [y]).length c3) (gs ++ [y]))
   (ne : ∀ k, (Value.slice Af fs.length cf).ownBlock = some k → (Value.slice A3 (gs ++ [y]).length c3).ownBlock ≠ some k) (hg : wr.grownBy w' (Value.slice Am gs.length cm).ownBlock) :
   ClsAt W0 w c bc s nm sp f (g ++ [x]) ((((w'.setCell ⟨bc, 0, none⟩ (.string nm)).setCell ⟨bc, 1, none⟩ (.string sp)).setCell ⟨bc, 2, none⟩ (.slice Af fs.length cf)).setCell ⟨bc, 3, none⟩ (.slice A3 (gs ++ [y]).length c3)) Af A3 cf c3 fs (gs ++ [y]) := by
 have h1 := h.hb
 have h2 := h.hc
 have h3 := h.hle
 have hx := h.boxM hg
 have hgg := grown_4 w' bc (.string nm) (.string sp) (.slice Af fs.length cf) (.slice A3 (gs ++ [y]).length c3)
 have hmv := Mv.row h.mv hg (fun k hk => by have := (h.rm.lt k hk).1; omega) (fun k hk => by have := (h.rm.lt k hk).1; omega) h.hc
 have hrb : Bx w' w.heap.size #[.string ⟨#[]⟩, .string ⟨#[]⟩, .slice none 0 0, .slice none 0 0] 48 := (hg.block _ h.rb.lt (fun e => by have := (h.rm.lt _ e.symm).1; omega)).trans h.rb
 exact ⟨Mv.over (Below.refl _ _) hmv hgg (by omega) h.hc, hx.to_4 _ _ _ _, rf.grown hgg (by omega), ro.grown hgg (by omega), ne, h.bf, by rw [bareL_append, bareL_append, h.bg]; simp only [bareL]; rw [hy], h.hb, h.hc, Bx.grown hrb hgg (by omega), h.hle⟩
end
def CsC (W0 : World) (c : Nat) (w : World) (r : Nd × RS) (e : Ending) (w' : World) : Prop := ∃ (nm sp : ByteArray) (Af Am : Option Addr) (cf cm : Nat) (fs gs : List Nd), e = .returned (.agg #[.string nm, .string sp, .slice Af fs.length cf, .slice Am gs.length cm]) ∧ NK .cl w.heap.size none w' r.1 (.cl nm sp (.slice Af fs.length cf) (.slice Am gs.length cm) fs gs) ∧ Mv W0 c r.2 w w'
theorem class_0 (HE : ExAny) (HAR : ArAny) (W0 w : World) (c : Nat) (s : RS) (hv : Vars W0) (h : Rd W0 c s w) (hel : (kl1 s).sees 0 kExtends = false) : Calls Tryz.prog 26 #[.pointer (some ⟨c, 0, none⟩)] w (CsC W0 c w (clsC s)) := by
 obtain ⟨R, hR⟩ : ∃ R, clB s = R := ⟨_, rfl⟩
 have hlc : loopC ((kl3 s).len + 1) (s.need kClass).classV [] [] (kl3 s) = R := hR
 have hnm := class_len (s.need kClass)
 obtain ⟨nm, hnme⟩ : ∃ nm, (s.need kClass).classV = nm := ⟨_, rfl⟩
 obtain ⟨s3, hs3⟩ : ∃ s3, kl3 s = s3 := ⟨_, rfl⟩
 obtain ⟨s1, hs1⟩ : ∃ s1, kl1 s = s1 := ⟨_, rfl⟩
 have e1 : (s.need kClass).class = s1 := hs1
 have e3 : s1.need sBra = s3 := by rw [← hs3, ← hs1]; unfold kl3 kl2; rw [if_neg (by simp [hel])]
 have hsup : clSup s = ⟨#[]⟩ := by unfold clSup; rw [if_neg (by simp [hel])]; rfl
 have HRE : Hid (clsC s = (.cl nm ⟨#[]⟩ (.slice none 0 0) (.slice none 0 0) R.1.1 R.1.2, R.2.need sKet)) := Lib.hid (by simp only [clsC, hR, hnme, hsup])
 obtain ⟨RR, hRR⟩ : ∃ RR, clsC s = RR := ⟨_, rfl⟩
 rw [hRR] at HRE ⊢
 have hlt := h.lt
 have hle0 := h.le
 obtain ⟨W1, hW1⟩ : ∃ W1, w.alloc (.cells #[.string ⟨#[]⟩, .string ⟨#[]⟩, .slice none 0 0, .slice none 0 0] 48) = W1 := ⟨_, rfl⟩
 have hb : Below w.heap.size w W1 := by rw [← hW1]; exact (Below.refl _ w).alloc (Nat.le_refl _) _
 have hx : Bx W1 w.heap.size #[.string ⟨#[]⟩, .string ⟨#[]⟩, .slice none 0 0, .slice none 0 0] 48 := by rw [← hW1]; exact Bx.new _ _ _
 have hz : W1.heap.size = w.heap.size + 1 := by rw [← hW1]; simp
 have HM := Lib.hid (Mv.below hb h)
 have HB := Lib.hid hx
 clear hb hx
 rw [hs1] at hel
 rw [hnme, hs3] at hlc
 rw [hnme] at hnm
 have HN0 : Hid (∀ w', Rd W0 c (s) w' → Calls Tryz.prog 36 #[.pointer (some ⟨c, 0, none⟩), .string kClass] w' fun e w'' => e = .returned (.tuple #[]) ∧ Mv W0 c (RS.need (s) kClass) w' w'') := by
   show ∀ w', _
   intro w' h'; exact need_any W0 w' c _ kClass h'
 have HC : Hid (∀ w', Rd W0 c (s.need kClass) w' → Calls Tryz.prog 37 #[.pointer (some ⟨c, 0, none⟩)] w' fun e w'' => e = .returned (.string (s.need kClass).classV) ∧ Mv W0 c ((s.need kClass).class) w' w'') := by
   show ∀ w', _
   intro w' h'; exact classR_any W0 w' c _ h'
 rw [hnme, e1] at HC
 have HT : Hid (∀ w', Rd W0 c (s1) w' → Calls Tryz.prog 38 #[.pointer (some ⟨c, 0, none⟩), .string kExtends] w' fun e w'' => e = .returned (.bool false) ∧ w' = w'') := by
   show ∀ w', _
   intro w' h'; exact take_false W0 w' c s1 kExtends h' hel
 have HN1 : Hid (∀ w', Rd W0 c (s1) w' → Calls Tryz.prog 36 #[.pointer (some ⟨c, 0, none⟩), .string sBra] w' fun e w'' => e = .returned (.tuple #[]) ∧ Mv W0 c (RS.need (s1) sBra) w' w'') := by
   show ∀ w', _
   intro w' h'; exact need_any W0 w' c _ sBra h'
 rw [e3] at HN1
 have HN2 : Hid (∀ w', Rd W0 c (R.2) w' → Calls Tryz.prog 36 #[.pointer (some ⟨c, 0, none⟩), .string sKet] w' fun e w'' => e = .returned (.tuple #[]) ∧ Mv W0 c (RS.need (R.2) sKet) w' w'') := by
   show ∀ w', _
   intro w' h'; exact need_any W0 w' c _ sKet h'
 have HMB : Hid (∀ s' w', Rd W0 c s' w' → Calls Tryz.prog 41 #[.pointer (some ⟨c, 0, none⟩), .string nm] w' (MbC W0 c w' (memM nm s'))) := by
   show ∀ s' w', _
   intro s' w' h'; exact member_any HE HAR W0 w' c s' nm hv h'
 have HLC := Lib.hid hlc
 clear hRR hR hlc hnme hs3 hs1 e1 e3 hsup h hv HE HAR hel
 go_enter Tryz.func26, Tryz.ntmps26
 go_wp2_with fail
 refine (HN0.out _ HM.out.2).mono ?_
 clear HN0 hW1
 rintro e w2 ⟨rfl, hm⟩
 replace HM := Lib.hid (HM.out.trans hm)
 replace HB := Lib.hid (Bx.grown HB.out hm.1 (by omega))
 have hs2 := hm.1.size
 clear hm
 go_wp2_with fail
 refine (HC.out _ HM.out.2).mono ?_
 clear HC
 rintro e w3 ⟨rfl, hm⟩
 replace HM := Lib.hid (HM.out.trans hm)
 replace HB := Lib.hid (Bx.grown HB.out hm.1 (by omega))
 have hs3 := hm.1.size
 clear hm
 obtain ⟨W4, hW4⟩ : ∃ W, w3.alloc (.cells #[.string nm, .string ⟨#[]⟩, .slice none 0 0, .slice none 0 0] 48) = W := ⟨_, rfl⟩
 have hb : Below w3.heap.size w3 W4 := by rw [← hW4]; exact (Below.refl _ _).alloc (Nat.le_refl _) _
 have HL : Hid (Bx W4 w3.heap.size #[.string nm, .string ⟨#[]⟩, .slice none 0 0, .slice none 0 0] 48) := Lib.hid (by rw [← hW4]; exact Bx.new _ _ _)
 have hz4 : W4.heap.size = w3.heap.size + 1 := by rw [← hW4]; simp
 replace HM := Lib.hid (HM.out.trans (Mv.below hb HM.out.2))
 replace HB := Lib.hid (HB.out.next hb)
 clear hb
 subst hW4
 go_wp2_with fail
 refine (HT.out _ HM.out.2).mono ?_
 clear HT
 rintro e w5 ⟨rfl, rfl⟩
 go_wp2_with fail
 refine (HN1.out _ HM.out.2).mono ?_
 clear HN1
 rintro e w8 ⟨rfl, hm⟩
 replace HM := Lib.hid (HM.out.trans hm)
 replace HB := Lib.hid (Bx.grown HB.out hm.1 (by omega))
 replace HL := Lib.hid (Bx.grown HL.out hm.1 (by omega))
 clear hm
 have hsp : (⟨#[]⟩ : ByteArray).size ≤ maxLen := Nat.zero_le _
 have HCA : Hid (ClsAt W0 w c w3.heap.size s3 nm ⟨#[]⟩ [] [] w8 none none 0 0 [] []) := Lib.hid ⟨HM.out, HL.out, OwnT.nil, OwnT.nil, by simp [Value.ownBlock], rfl, rfl, by omega, hlt, HB.out, hle0⟩
 have hfew := HM.out.2.few
 have hbc : w.heap.size < w3.heap.size := by omega
 clear HM HL HB
 obtain ⟨sl, hsl⟩ : ∃ sl, s3.len = sl := ⟨_, rfl⟩
 rw [hsl] at HLC hfew
 go_wp2_with fail
 go_loopw [17] (fun v17 wr => ∃ (m : Nat) (f g : List Nd) (s' : RS) (Af Am : Option Addr) (cf cm : Nat) (fs gs : List Nd), loopC m nm f g s' = R ∧ s'.len < m ∧ ClsAt W0 w c w3.heap.size s' nm ⟨#[]⟩ f g wr Af Am cf cm fs gs ∧ fs.length + gs.length + s'.len ≤ 1000001) (fun v17 wr => lenAt wr c)
 case atStart => exact ⟨sl + 1, [], [], s3, none, none, 0, 0, [], [], HLC.out, by omega, HCA.out, by simp; omega⟩
 case round =>
   obtain ⟨m, f, g, s', Af, Am, cf, cm, fs, gs, hrun, hen, hca, hbd⟩ := hrel
   obtain ⟨m, rfl⟩ : ∃ m', m = m' + 1 := ⟨m - 1, by omega⟩
   have HU := Lib.hid (until_any W0 wr c s' sKet hca.mv.2)
   have hla := lenAt_of hca.mv.2
   have HCB := Lib.hid hca
   cases hun : s'.until sKet with
   | false =>
     have hR : loopC (m + 1) nm f g s' = ((f, g), s') := by simp only [loopC, hun]; simp
     rw [hR] at hrun
     rw [hun] at HU
     subst hrun
     clear hR hun hca hla hen hbd
     go_wp2_with fail
     refine HU.out.mono ?_
     clear HU
     rintro e w9 ⟨rfl, rfl⟩
     go_wp2_with fail
     refine (HN2.out _ HCB.out.mv.2).mono ?_
     clear HN2
     rintro e w10 ⟨rfl, hm⟩
     have HC1 := Lib.hid (HCB.out.move hm)
     clear hm
     obtain ⟨y0, y1, y2, y3⟩ := HC1.out.bx.all_4
     obtain ⟨r0, r1, r2, r3⟩ := HC1.out.rb.all_4
     have g0 := HC1.out.rb.fro 0; have g1 := HC1.out.rb.fro 1; have g2 := HC1.out.rb.fro 2; have g3 := HC1.out.rb.fro 3
     have HG := Lib.hid (grown_4 w10 w.heap.size (.string nm) (.string ⟨#[]⟩) (.slice Af fs.length cf) (.slice Am gs.length cm))
     go_wp2_with fail
     obtain ⟨z0, z1, z2, z3⟩ := (HC1.out.rb.to_4 (.string nm) (.string ⟨#[]⟩) (.slice Af fs.length cf) (.slice Am gs.length cm)).all_4
     (try simp only [Exit.inBlock, Exit.then])
     refine bodyPost_ret (v := .agg #[.string nm, .string ⟨#[]⟩, .slice Af fs.length cf, .slice Am gs.length cm]) (by simp [results, Tryz.results26, go_sem, z0, z1, z2, z3]) rfl ?_
     rw [HRE.out]
     exact ⟨nm, ⟨#[]⟩, Af, Am, cf, cm, fs, gs, rfl, ((cl_node (B := w3.heap.size + 1) ⟨hnm, hsp⟩ HC1.out.rf.fk HC1.out.rm.fk HC1.out.bf HC1.out.bg).grown HG.out (.inl (by omega))).mono (by omega), Mv.over (Below.refl _ _) HC1.out.mv HG.out (Nat.le_refl _) hlt⟩
   | true =>
     rw [hun] at HU
     obtain ⟨q, hq⟩ : ∃ q, memM nm s' = q := ⟨_, rfl⟩
     have h1 : 1 ≤ s'.len := by
       cases hw : s'.ws with
       | nil => simp [RS.until, hw] at hun
       | cons x l => simp [RS.len, hw]
     have h3 : q.2.len ≤ s'.len - 1 := by rw [← hq]; exact len_memM nm s'
     have HMQ := Lib.hid (HMB.out s' wr.drew hca.mv.2.drew)
     rw [hq] at HMQ
     have HCD := Lib.hid (hca.below (Below.refl _ wr).drew)
     obtain ⟨y0, y1, y2, y3⟩ := hca.bx.all_4
     cases hF : isF q.1 with
     | true =>
       have hR : loopC (m + 1) nm f g s' = loopC m nm (f ++ [q.1]) g q.2 := by simp only [loopC, hun, hq, hF]; simp
       rw [hR] at hrun
       have HRUN := Lib.hid hrun
       have hsw : wr.drew.heap.size = wr.heap.size := rfl
       have hbl := hca.bx.lt
       clear hR hrun hq hca hun
       go_wp2_with fail
       refine HU.out.mono ?_
       clear HU
       rintro e w9 ⟨rfl, rfl⟩
       go_wp2_with fail
       go_region_law (go_simp; go_wp2_with (first | (go_at_call 41; refine HMQ.out.mono ?_; intro e w5 hmb; obtain ⟨st, ty, nm', A1, c1, l, rfl, hk, hm⟩ := MbC.fd hmb hF; clear hmb; have HC5 := Lib.hid (HCD.out.move hm); have HK5 := Lib.hid hk; have HBQ := Lib.hid hk.2.2; have hsz5 := hm.1.size; obtain ⟨b0, b1, b2, b3⟩ := HC5.out.bx.all_4; have HWI := Lib.hid (with_F w5 (w3.heap.size + 1) wr.drew.heap.size nm ⟨#[]⟩ Af Am cf cm fs gs q.1 st ty nm' A1 c1 l HC5.out.rf HC5.out.rm HC5.out.ne HK5.out (by omega) (fun k hk => (HCD.out.rf.lt k hk).2) (fun k hk => (HCD.out.rm.lt k hk).2) (by omega) hsz5 (by omega)); clear hm hk) | (go_at_call 40; refine HWI.out.mono ?_; rintro e w7 ⟨v', rfl, ro, rm, hne, hg⟩; obtain ⟨A3, c3, rfl⟩ := ro.form; have HXB := Lib.hid (HC5.out.boxF hg); have HPUT := Lib.hid (HC5.out.putF HBQ.out ro rm hne hg); simp only [List.length_append, List.length_cons, List.length_nil, Nat.zero_add] at HPUT; clear HWI; obtain ⟨d0, d1, d2, d3⟩ := HXB.out.all_4; have g0 := HXB.out.fro 0; have g1 := HXB.out.fro 1; have g2 := HXB.out.fro 2; have g3 := HXB.out.fro 3; clear ro rm hne hg)))
       all_goals
         go_wp2_with fail
         go_roundw
         case rel => exact ⟨m, _, _, q.2, _, _, _, _, _, _, HRUN.out, by omega, HPUT.out, by simp; omega⟩
         case measure => (refine Nat.lt_of_le_of_lt (Nat.le_of_eq (lenAt_of HPUT.out.mv.2)) ?_; rw [hla]; omega)
     | false =>
       have hR : loopC (m + 1) nm f g s' = loopC m nm f (g ++ [q.1]) q.2 := by simp only [loopC, hun, hq, hF]; simp
       rw [hR] at hrun
       have HRUN := Lib.hid hrun
       have hsw : wr.drew.heap.size = wr.heap.size := rfl
       have hbl := hca.bx.lt
       clear hR hrun hq hca hun
       go_wp2_with fail
       refine HU.out.mono ?_
       clear HU
       rintro e w9 ⟨rfl, rfl⟩
       go_wp2_with fail
       go_region_law (go_simp; go_wp2_with (first | (go_at_call 41; refine HMQ.out.mono ?_; intro e w5 hmb; obtain ⟨st, ct, ty, nm', A1, A2, c1, c2, ps, l, rfl, hk, hm⟩ := MbC.mt hmb hF; clear hmb; have HC5 := Lib.hid (HCD.out.move hm); have HK5 := Lib.hid hk; have HBQ := Lib.hid hk.2.2; have hsz5 := hm.1.size; obtain ⟨b0, b1, b2, b3⟩ := HC5.out.bx.all_4; have HWI := Lib.hid (with_M w5 (w3.heap.size + 1) wr.drew.heap.size nm ⟨#[]⟩ Af Am cf cm fs gs q.1 st ct ty nm' A1 A2 c1 c2 ps l HC5.out.rf HC5.out.rm HC5.out.ne HK5.out (by omega) (fun k hk => (HCD.out.rf.lt k hk).2) (fun k hk => (HCD.out.rm.lt k hk).2) (by omega) hsz5 (by omega)); clear hm hk) | (go_at_call 40; refine HWI.out.mono ?_; rintro e w7 ⟨v', rfl, rf, ro, hne, hg⟩; obtain ⟨A3, c3, rfl⟩ := ro.form; have HXB := Lib.hid (HC5.out.boxM hg); have HPUT := Lib.hid (HC5.out.putM HBQ.out rf ro hne hg); simp only [List.length_append, List.length_cons, List.length_nil, Nat.zero_add] at HPUT; clear HWI; obtain ⟨d0, d1, d2, d3⟩ := HXB.out.all_4; have g0 := HXB.out.fro 0; have g1 := HXB.out.fro 1; have g2 := HXB.out.fro 2; have g3 := HXB.out.fro 3; clear ro rf hne hg)))
       all_goals
         go_wp2_with fail
         go_roundw
         case rel => exact ⟨m, _, _, q.2, _, _, _, _, _, _, HRUN.out, by omega, HPUT.out, by simp; omega⟩
         case measure => (refine Nat.lt_of_le_of_lt (Nat.le_of_eq (lenAt_of HPUT.out.mv.2)) ?_; rw [hla]; omega)
theorem class_1 (HE : ExAny) (HAR : ArAny) (W0 w : World) (c : Nat) (s : RS) (hv : Vars W0) (h : Rd W0 c s w) (hel : (kl1 s).sees 0 kExtends = true) : Calls Tryz.prog 26 #[.pointer (some ⟨c, 0, none⟩)] w (CsC W0 c w (clsC s)) := by
 obtain ⟨R, hR⟩ : ∃ R, clB s = R := ⟨_, rfl⟩
 have hlc : loopC ((kl3 s).len + 1) (s.need kClass).classV [] [] (kl3 s) = R := hR
 have hnm := class_len (s.need kClass)
 obtain ⟨nm, hnme⟩ : ∃ nm, (s.need kClass).classV = nm := ⟨_, rfl⟩
 obtain ⟨s3, hs3⟩ : ∃ s3, kl3 s = s3 := ⟨_, rfl⟩
 obtain ⟨s1, hs1⟩ : ∃ s1, kl1 s = s1 := ⟨_, rfl⟩
 have e1 : (s.need kClass).class = s1 := hs1
 have e3 : s1.skip.class.need sBra = s3 := by rw [← hs3, ← hs1]; unfold kl3 kl2; rw [if_pos hel]
 have hsup : clSup s = s1.skip.classV := by unfold clSup; rw [if_pos hel, hs1]
 have hsp := class_len s1.skip
 obtain ⟨sp, hspe⟩ : ∃ sp, s1.skip.classV = sp := ⟨_, rfl⟩
 rw [hspe] at hsup hsp
 have HRE : Hid (clsC s = (.cl nm sp (.slice none 0 0) (.slice none 0 0) R.1.1 R.1.2, R.2.need sKet)) := Lib.hid (by simp only [clsC, hR, hnme, hsup])
 obtain ⟨RR, hRR⟩ : ∃ RR, clsC s = RR := ⟨_, rfl⟩
 rw [hRR] at HRE ⊢
 have hlt := h.lt
 have hle0 := h.le
 obtain ⟨W1, hW1⟩ : ∃ W1, w.alloc (.cells #[.string ⟨#[]⟩, .string ⟨#[]⟩, .slice none 0 0, .slice none 0 0] 48) = W1 := ⟨_, rfl⟩
 have hb : Below w.heap.size w W1 := by rw [← hW1]; exact (Below.refl _ w).alloc (Nat.le_refl _) _
 have hx : Bx W1 w.heap.size #[.string ⟨#[]⟩, .string ⟨#[]⟩, .slice none 0 0, .slice none 0 0] 48 := by rw [← hW1]; exact Bx.new _ _ _
 have hz : W1.heap.size = w.heap.size + 1 := by rw [← hW1]; simp
 have HM := Lib.hid (Mv.below hb h)
 have HB := Lib.hid hx
 clear hb hx
 rw [hs1] at hel
 rw [hnme, hs3] at hlc
 rw [hnme] at hnm
 have HN0 : Hid (∀ w', Rd W0 c (s) w' → Calls Tryz.prog 36 #[.pointer (some ⟨c, 0, none⟩), .string kClass] w' fun e w'' => e = .returned (.tuple #[]) ∧ Mv W0 c (RS.need (s) kClass) w' w'') := by
   show ∀ w', _
   intro w' h'; exact need_any W0 w' c _ kClass h'
 have HC : Hid (∀ w', Rd W0 c (s.need kClass) w' → Calls Tryz.prog 37 #[.pointer (some ⟨c, 0, none⟩)] w' fun e w'' => e = .returned (.string (s.need kClass).classV) ∧ Mv W0 c ((s.need kClass).class) w' w'') := by
   show ∀ w', _
   intro w' h'; exact classR_any W0 w' c _ h'
 rw [hnme, e1] at HC
 have HT : Hid (∀ w', Rd W0 c (s1) w' → Calls Tryz.prog 38 #[.pointer (some ⟨c, 0, none⟩), .string kExtends] w' fun e w'' => e = .returned (.bool true) ∧ Mv W0 c (RS.skip (s1)) w' w'') := by
   show ∀ w', _
   intro w' h'; exact take_true W0 w' c s1 kExtends h' hel
 have HC2 : Hid (∀ w', Rd W0 c (s1.skip) w' → Calls Tryz.prog 37 #[.pointer (some ⟨c, 0, none⟩)] w' fun e w'' => e = .returned (.string s1.skip.classV) ∧ Mv W0 c (s1.skip.class) w' w'') := by
   show ∀ w', _
   intro w' h'; exact classR_any W0 w' c _ h'
 rw [hspe] at HC2
 have HN1 : Hid (∀ w', Rd W0 c (s1.skip.class) w' → Calls Tryz.prog 36 #[.pointer (some ⟨c, 0, none⟩), .string sBra] w' fun e w'' => e = .returned (.tuple #[]) ∧ Mv W0 c (RS.need (s1.skip.class) sBra) w' w'') := by
   show ∀ w', _
   intro w' h'; exact need_any W0 w' c _ sBra h'
 rw [e3] at HN1
 have HN2 : Hid (∀ w', Rd W0 c (R.2) w' → Calls Tryz.prog 36 #[.pointer (some ⟨c, 0, none⟩), .string sKet] w' fun e w'' => e = .returned (.tuple #[]) ∧ Mv W0 c (RS.need (R.2) sKet) w' w'') := by
   show ∀ w', _
   intro w' h'; exact need_any W0 w' c _ sKet h'
 have HMB : Hid (∀ s' w', Rd W0 c s' w' → Calls Tryz.prog 41 #[.pointer (some ⟨c, 0, none⟩), .string nm] w' (MbC W0 c w' (memM nm s'))) := by
   show ∀ s' w', _
   intro s' w' h'; exact member_any HE HAR W0 w' c s' nm hv h'
 have HLC := Lib.hid hlc
 clear hRR hR hlc hnme hs3 hs1 e1 e3 hsup h hv HE HAR hel hspe
 go_enter Tryz.func26, Tryz.ntmps26
 go_wp2_with fail
 refine (HN0.out _ HM.out.2).mono ?_
 clear HN0 hW1
 rintro e w2 ⟨rfl, hm⟩
 replace HM := Lib.hid (HM.out.trans hm)
 replace HB := Lib.hid (Bx.grown HB.out hm.1 (by omega))
 have hs2 := hm.1.size
 clear hm
 go_wp2_with fail
 refine (HC.out _ HM.out.2).mono ?_
 clear HC
 rintro e w3 ⟨rfl, hm⟩
 replace HM := Lib.hid (HM.out.trans hm)
 replace HB := Lib.hid (Bx.grown HB.out hm.1 (by omega))
 have hs3 := hm.1.size
 clear hm
 obtain ⟨W4, hW4⟩ : ∃ W, w3.alloc (.cells #[.string nm, .string ⟨#[]⟩, .slice none 0 0, .slice none 0 0] 48) = W := ⟨_, rfl⟩
 have hb : Below w3.heap.size w3 W4 := by rw [← hW4]; exact (Below.refl _ _).alloc (Nat.le_refl _) _
 have HL : Hid (Bx W4 w3.heap.size #[.string nm, .string ⟨#[]⟩, .slice none 0 0, .slice none 0 0] 48) := Lib.hid (by rw [← hW4]; exact Bx.new _ _ _)
 have hz4 : W4.heap.size = w3.heap.size + 1 := by rw [← hW4]; simp
 replace HM := Lib.hid (HM.out.trans (Mv.below hb HM.out.2))
 replace HB := Lib.hid (HB.out.next hb)
 clear hb
 subst hW4
 go_wp2_with fail
 refine (HT.out _ HM.out.2).mono ?_
 clear HT
 rintro e w5 ⟨rfl, hm⟩
 replace HM := Lib.hid (HM.out.trans hm)
 replace HB := Lib.hid (Bx.grown HB.out hm.1 (by omega))
 replace HL := Lib.hid (Bx.grown HL.out hm.1 (by omega))
 have hs5 := hm.1.size
 clear hm
 go_wp2_with fail
 refine (HC2.out _ HM.out.2).mono ?_
 clear HC2
 rintro e w6 ⟨rfl, hm⟩
 replace HM := Lib.hid (HM.out.trans hm)
 replace HB := Lib.hid (Bx.grown HB.out hm.1 (by omega))
 replace HL := Lib.hid (Bx.grown HL.out hm.1 (by omega))
 have hs6 := hm.1.size
 clear hm
 obtain ⟨x0, x1, x2, x3⟩ := HL.out.all_4
 have gx1 := HL.out.fro 1
 obtain ⟨W7, hW7⟩ : ∃ W, w6.setCell ⟨w3.heap.size, 1, none⟩ (.string sp) = W := ⟨_, rfl⟩
 have hg : w6.grownBy W7 (some w3.heap.size) := by rw [← hW7]; exact grown_set_at _ _ _ _
 have hl2 : Bx W7 w3.heap.size #[.string nm, .string sp, .slice none 0 0, .slice none 0 0] 48 := by
   rw [← hW7]
   have := HL.out.set 1 (.string sp)
   simpa using this
 replace HM := Lib.hid (Mv.over (Below.refl _ _) HM.out hg (by omega) hlt)
 replace HB := Lib.hid (Bx.grown HB.out hg (by omega))
 replace HL := Lib.hid hl2
 have hs7 := hg.size
 clear hl2 hg
 go_wp2_with fail
 refine (HN1.out _ HM.out.2).mono ?_
 clear HN1 hW7 x0 x1 x2 x3 gx1
 rintro e w8 ⟨rfl, hm⟩
 replace HM := Lib.hid (HM.out.trans hm)
 replace HB := Lib.hid (Bx.grown HB.out hm.1 (by omega))
 replace HL := Lib.hid (Bx.grown HL.out hm.1 (by omega))
 clear hm
 have HCA : Hid (ClsAt W0 w c w3.heap.size s3 nm sp [] [] w8 none none 0 0 [] []) := Lib.hid ⟨HM.out, HL.out, OwnT.nil, OwnT.nil, by simp [Value.ownBlock], rfl, rfl, by omega, hlt, HB.out, hle0⟩
 have hfew := HM.out.2.few
 have hbc : w.heap.size < w3.heap.size := by omega
 clear HM HL HB
 obtain ⟨sl, hsl⟩ : ∃ sl, s3.len = sl := ⟨_, rfl⟩
 rw [hsl] at HLC hfew
 go_wp2_with fail
 go_loopw [17] (fun v17 wr => ∃ (m : Nat) (f g : List Nd) (s' : RS) (Af Am : Option Addr) (cf cm : Nat) (fs gs : List Nd), loopC m nm f g s' = R ∧ s'.len < m ∧ ClsAt W0 w c w3.heap.size s' nm sp f g wr Af Am cf cm fs gs ∧ fs.length + gs.length + s'.len ≤ 1000001) (fun v17 wr => lenAt wr c)
 case atStart => exact ⟨sl + 1, [], [], s3, none, none, 0, 0, [], [], HLC.out, by omega, HCA.out, by simp; omega⟩
 case round =>
   obtain ⟨m, f, g, s', Af, Am, cf, cm, fs, gs, hrun, hen, hca, hbd⟩ := hrel
   obtain ⟨m, rfl⟩ : ∃ m', m = m' + 1 := ⟨m - 1, by omega⟩
   have HU := Lib.hid (until_any W0 wr c s' sKet hca.mv.2)
   have hla := lenAt_of hca.mv.2
   have HCB := Lib.hid hca
   cases hun : s'.until sKet with
   | false =>
     have hR : loopC (m + 1) nm f g s' = ((f, g), s') := by simp only [loopC, hun]; simp
     rw [hR] at hrun
     rw [hun] at HU
     subst hrun
     clear hR hun hca hla hen hbd
     go_wp2_with fail
     refine HU.out.mono ?_
     clear HU
     rintro e w9 ⟨rfl, rfl⟩
     go_wp2_with fail
     refine (HN2.out _ HCB.out.mv.2).mono ?_
     clear HN2
     rintro e w10 ⟨rfl, hm⟩
     have HC1 := Lib.hid (HCB.out.move hm)
     clear hm
     obtain ⟨y0, y1, y2, y3⟩ := HC1.out.bx.all_4
     obtain ⟨r0, r1, r2, r3⟩ := HC1.out.rb.all_4
     have g0 := HC1.out.rb.fro 0; have g1 := HC1.out.rb.fro 1; have g2 := HC1.out.rb.fro 2; have g3 := HC1.out.rb.fro 3
     have HG := Lib.hid (grown_4 w10 w.heap.size (.string nm) (.string sp) (.slice Af fs.length cf) (.slice Am gs.length cm))
     go_wp2_with fail
     obtain ⟨z0, z1, z2, z3⟩ := (HC1.out.rb.to_4 (.string nm) (.string sp) (.slice Af fs.length cf) (.slice Am gs.length cm)).all_4
     (try simp only [Exit.inBlock, Exit.then])
     refine bodyPost_ret (v := .agg #[.string nm, .string sp, .slice Af fs.length cf, .slice Am gs.length cm]) (by simp [results, Tryz.results26, go_sem, z0, z1, z2, z3]) rfl ?_
     rw [HRE.out]
     exact ⟨nm, sp, Af, Am, cf, cm, fs, gs, rfl, ((cl_node (B := w3.heap.size + 1) ⟨hnm, hsp⟩ HC1.out.rf.fk HC1.out.rm.fk HC1.out.bf HC1.out.bg).grown HG.out (.inl (by omega))).mono (by omega), Mv.over (Below.refl _ _) HC1.out.mv HG.out (Nat.le_refl _) hlt⟩
   | true =>
     rw [hun] at HU
     obtain ⟨q, hq⟩ : ∃ q, memM nm s' = q := ⟨_, rfl⟩
     have h1 : 1 ≤ s'.len := by
       cases hw : s'.ws with
       | nil => simp [RS.until, hw] at hun
       | cons x l => simp [RS.len, hw]
     have h3 : q.2.len ≤ s'.len - 1 := by rw [← hq]; exact len_memM nm s'
     have HMQ := Lib.hid (HMB.out s' wr.drew hca.mv.2.drew)
     rw [hq] at HMQ
     have HCD := Lib.hid (hca.below (Below.refl _ wr).drew)
     obtain ⟨y0, y1, y2, y3⟩ := hca.bx.all_4
     cases hF : isF q.1 with
     | true =>
       have hR : loopC (m + 1) nm f g s' = loopC m nm (f ++ [q.1]) g q.2 := by simp only [loopC, hun, hq, hF]; simp
       rw [hR] at hrun
       have HRUN := Lib.hid hrun
       have hsw : wr.drew.heap.size = wr.heap.size := rfl
       have hbl := hca.bx.lt
       clear hR hrun hq hca hun
       go_wp2_with fail
       refine HU.out.mono ?_
       clear HU
       rintro e w9 ⟨rfl, rfl⟩
       go_wp2_with fail
       go_region_law (go_simp; go_wp2_with (first | (go_at_call 41; refine HMQ.out.mono ?_; intro e w5 hmb; obtain ⟨st, ty, nm', A1, c1, l, rfl, hk, hm⟩ := MbC.fd hmb hF; clear hmb; have HC5 := Lib.hid (HCD.out.move hm); have HK5 := Lib.hid hk; have HBQ := Lib.hid hk.2.2; have hsz5 := hm.1.size; obtain ⟨b0, b1, b2, b3⟩ := HC5.out.bx.all_4; have HWI := Lib.hid (with_F w5 (w3.heap.size + 1) wr.drew.heap.size nm sp Af Am cf cm fs gs q.1 st ty nm' A1 c1 l HC5.out.rf HC5.out.rm HC5.out.ne HK5.out (by omega) (fun k hk => (HCD.out.rf.lt k hk).2) (fun k hk => (HCD.out.rm.lt k hk).2) (by omega) hsz5 (by omega)); clear hm hk) | (go_at_call 40; refine HWI.out.mono ?_; rintro e w7 ⟨v', rfl, ro, rm, hne, hg⟩; obtain ⟨A3, c3, rfl⟩ := ro.form; have HXB := Lib.hid (HC5.out.boxF hg); have HPUT := Lib.hid (HC5.out.putF HBQ.out ro rm hne hg); simp only [List.length_append, List.length_cons, List.length_nil, Nat.zero_add] at HPUT; clear HWI; obtain ⟨d0, d1, d2, d3⟩ := HXB.out.all_4; have g0 := HXB.out.fro 0; have g1 := HXB.out.fro 1; have g2 := HXB.out.fro 2; have g3 := HXB.out.fro 3; clear ro rm hne hg)))
       all_goals
         go_wp2_with fail
         go_roundw
         case rel => exact ⟨m, _, _, q.2, _, _, _, _, _, _, HRUN.out, by omega, HPUT.out, by simp; omega⟩
         case measure => (refine Nat.lt_of_le_of_lt (Nat.le_of_eq (lenAt_of HPUT.out.mv.2)) ?_; rw [hla]; omega)
     | false =>
       have hR : loopC (m + 1) nm f g s' = loopC m nm f (g ++ [q.1]) q.2 := by simp only [loopC, hun, hq, hF]; simp
       rw [hR] at hrun
       have HRUN := Lib.hid hrun
       have hsw : wr.drew.heap.size = wr.heap.size := rfl
       have hbl := hca.bx.lt
       clear hR hrun hq hca hun
       go_wp2_with fail
       refine HU.out.mono ?_
       clear HU
       rintro e w9 ⟨rfl, rfl⟩
       go_wp2_with fail
       go_region_law (go_simp; go_wp2_with (first | (go_at_call 41; refine HMQ.out.mono ?_; intro e w5 hmb; obtain ⟨st, ct, ty, nm', A1, A2, c1, c2, ps, l, rfl, hk, hm⟩ := MbC.mt hmb hF; clear hmb; have HC5 := Lib.hid (HCD.out.move hm); have HK5 := Lib.hid hk; have HBQ := Lib.hid hk.2.2; have hsz5 := hm.1.size; obtain ⟨b0, b1, b2, b3⟩ := HC5.out.bx.all_4; have HWI := Lib.hid (with_M w5 (w3.heap.size + 1) wr.drew.heap.size nm sp Af Am cf cm fs gs q.1 st ct ty nm' A1 A2 c1 c2 ps l HC5.out.rf HC5.out.rm HC5.out.ne HK5.out (by omega) (fun k hk => (HCD.out.rf.lt k hk).2) (fun k hk => (HCD.out.rm.lt k hk).2) (by omega) hsz5 (by omega)); clear hm hk) | (go_at_call 40; refine HWI.out.mono ?_; rintro e w7 ⟨v', rfl, rf, ro, hne, hg⟩; obtain ⟨A3, c3, rfl⟩ := ro.form; have HXB := Lib.hid (HC5.out.boxM hg); have HPUT := Lib.hid (HC5.out.putM HBQ.out rf ro hne hg); simp only [List.length_append, List.length_cons, List.length_nil, Nat.zero_add] at HPUT; clear HWI; obtain ⟨d0, d1, d2, d3⟩ := HXB.out.all_4; have g0 := HXB.out.fro 0; have g1 := HXB.out.fro 1; have g2 := HXB.out.fro 2; have g3 := HXB.out.fro 3; clear ro rf hne hg)))
       all_goals
         go_wp2_with fail
         go_roundw
         case rel => exact ⟨m, _, _, q.2, _, _, _, _, _, _, HRUN.out, by omega, HPUT.out, by simp; omega⟩
         case measure => (refine Nat.lt_of_le_of_lt (Nat.le_of_eq (lenAt_of HPUT.out.mv.2)) ?_; rw [hla]; omega)
theorem class_all (HE : ExAny) (HAR : ArAny) (W0 w : World) (c : Nat) (s : RS) (hv : Vars W0) (h : Rd W0 c s w) : Calls Tryz.prog 26 #[.pointer (some ⟨c, 0, none⟩)] w (CsC W0 c w (clsC s)) := by
 cases hel : (kl1 s).sees 0 kExtends with
 | false => exact class_0 HE HAR W0 w c s hv h hel
 | true => exact class_1 HE HAR W0 w c s hv h hel
end
section
open Go.RowKit
def PgC (W0 : World) (c : Nat) (w : World) (r : List Nd × RS) (e : Ending) (w' : World) : Prop := ∃ (A : Option Addr) (cap : Nat) (ys : List Nd), e = .returned (.agg #[.slice A ys.length cap]) ∧ FkL w.heap.size w' .cl (.slice A ys.length cap) ys ∧ bareL ys = bareL r.1 ∧ Mv W0 c r.2 w w'
structure PrgAt (W0 w : World) (c : Nat) (s : RS) (acc : List Nd) (wr : World) (A : Option Addr) (cap : Nat) (ys : List Nd) : Prop where
 mv : Mv W0 c s w wr
 bx : Bx wr (w.heap.size + 1) #[.slice A ys.length cap] 29
 rw' : OwnT .cl 48 (w.heap.size + 2) none wr (.slice A ys.length cap) ys
 bq : bareL ys = bareL acc
 hc : c < w.heap.size
 rb : Bx wr w.heap.size #[.slice none 0 0] 29
 hle : W0.heap.size ≤ w.heap.size
section
variable {W0 w wr w' : World} {c : Nat} {s s2 : RS} {acc : List Nd} {A : Option Addr} {cap : Nat} {ys : List Nd}
theorem PrgAt.below (h : PrgAt W0 w c s acc wr A cap ys) (hb : Below wr.heap.size wr w') : PrgAt W0 w c s acc w' A cap ys :=
 ⟨h.mv.trans (Mv.below hb h.mv.2), h.bx.next hb, h.rw'.below hb, h.bq, h.hc, h.rb.next hb, h.hle⟩
theorem PrgAt.move (h : PrgAt W0 w c s acc wr A cap ys) (hm : Mv W0 c s2 wr w') : PrgAt W0 w c s2 acc w' A cap ys :=
 have h2 := h.hc
 ⟨h.mv.trans hm, Bx.grown h.bx hm.1 (by omega), h.rw'.grown hm.1 (by omega), h.bq, h.hc, Bx.grown h.rb hm.1 (by omega), h.hle⟩
theorem PrgAt.box (h : PrgAt W0 w c s acc wr A cap ys) (hg : wr.grownBy w' (Value.slice A ys.length cap).ownBlock) : Bx w' (w.heap.size + 1) #[.slice A ys.length cap] 29 := by
 refine (hg.block _ h.bx.lt (fun e => ?_)).trans h.bx
 have := (h.rw'.lt _ e.symm).1
 omega
theorem PrgAt.put {x y : Nd} {A3 : Option Addr} {c3 n : Nat} (h : PrgAt W0 w c s acc wr A cap ys) (hy : bareN y = bareN x) (ro : OwnT .cl 48 (w.heap.size + 2) none w' (.slice A3 n c3) (ys ++ [y])) (hg : wr.grownBy w' (Value.slice A ys.length cap).ownBlock) (hn : n = (ys ++ [y]).length) :
   PrgAt W0 w c s (acc ++ [x]) (w'.setCell ⟨w.heap.size + 1, 0, none⟩ (.slice A3 n c3)) A3 c3 (ys ++ [y]) := by
 subst hn
 have h2 := h.hc
 have h3 := h.hle
 have hx := h.box hg
 have hgg := grown_1 w' (w.heap.size + 1) (.slice A3 (ys ++ [y]).length c3)
 have hmv := Mv.row h.mv hg (fun k hk => by have := (h.rw'.lt k hk).1; omega) (fun k hk => by have := (h.rw'.lt k hk).1; omega) h.hc
 have hrb : Bx w' w.heap.size #[.slice none 0 0] 29 := (hg.block _ h.rb.lt (fun e => by have := (h.rw'.lt _ e.symm).1; omega)).trans h.rb
 exact ⟨Mv.over (Below.refl _ _) hmv hgg (by omega) h.hc, hx.to_1 _, ro.grown hgg (by omega), by rw [bareL_append, bareL_append, h.bq]; simp only [bareL]; rw [hy], h.hc, Bx.grown hrb hgg (by omega), h.hle⟩
end
theorem prog_any (HE : ExAny) (HAR : ArAny) (W0 w : World) (c : Nat) (s : RS) (hv : Vars W0) (h : Rd W0 c s w) : Calls Tryz.prog 15 #[.pointer (some ⟨c, 0, none⟩)] w (PgC W0 c w (prg s)) := by
 obtain ⟨R, hR⟩ : ∃ R, prg s = R := ⟨_, rfl⟩
 have hlg : loopG (s.len + 1) [] s = R := hR
 rw [hR]
 have hlt := h.lt
 have hle0 := h.le
 obtain ⟨Wa, ha⟩ : ∃ W, w.alloc (.cells #[.slice none 0 0] 29) = W := ⟨_, rfl⟩
 have ka : Below w.heap.size w Wa := by rw [← ha]; exact (Below.refl _ _).alloc (Nat.le_refl _) _
 have xa : Bx Wa w.heap.size #[.slice none 0 0] 29 := by rw [← ha]; exact Bx.new _ _ _
 have sa : Wa.heap.size = w.heap.size + 1 := by rw [← ha]; simp
 obtain ⟨Wb, hb⟩ : ∃ W, Wa.alloc (.cells #[.slice none 0 0] 29) = W := ⟨_, rfl⟩
 have kb : Below Wa.heap.size Wa Wb := by rw [← hb]; exact (Below.refl _ _).alloc (Nat.le_refl _) _
 have xb : Bx Wb (w.heap.size + 1) #[.slice none 0 0] 29 := by rw [← hb, ← sa]; exact Bx.new _ _ _
 have HPA : Hid (PrgAt W0 w c s [] Wb none 0 []) := Lib.hid ⟨Mv.below (ka.trans (kb.mono ka.size)) h, xb, OwnT.nil, rfl, hlt, xa.next kb, hle0⟩
 have HX : Hid (∀ s' w', Rd W0 c s' w' → Calls Tryz.prog 26 #[.pointer (some ⟨c, 0, none⟩)] w' (CsC W0 c w' (clsC s'))) := by
   show ∀ s' w', _
   intro s' w' h'; exact class_all HE HAR W0 w' c s' hv h'
 have HLG := Lib.hid hlg
 have hfew := h.few
 obtain ⟨sl, hsl⟩ : ∃ sl, s.len = sl := ⟨_, rfl⟩
 rw [hsl] at HLG hfew
 have hsl' : s.len < sl + 1 := by omega
 obtain ⟨i0, hi, hz0, hzz1, hzz2⟩ := info_parts Tryz.infoCl
 clear xa xb ka kb sa hR hlg HE HAR hv
 subst ha hb
 go_enter Tryz.func15, Tryz.ntmps15
 go_wp2_with fail
 go_loopw [13] (fun v13 wr => ∃ (m : Nat) (acc : List Nd) (s' : RS) (A : Option Addr) (cap : Nat) (ys : List Nd), loopG m acc s' = R ∧ s'.len < m ∧ PrgAt W0 w c s' acc wr A cap ys ∧ ys.length + s'.len ≤ 1000001) (fun v13 wr => lenAt wr c)
 case atStart => exact ⟨sl + 1, [], s, none, 0, [], HLG.out, hsl', HPA.out, by simp; omega⟩
 case round =>
   obtain ⟨m, acc, s', A, cap, ys, hrun, hen, hp, hbd⟩ := hrel
   obtain ⟨m, rfl⟩ : ∃ m', m = m' + 1 := ⟨m - 1, by omega⟩
   have hla := lenAt_of hp.mv.2
   obtain ⟨Aw, cw, hw0, hwl⟩ := hp.mv.2.words
   have HPB := Lib.hid hp
   cases hws : s'.ws with
   | nil =>
     have hR : loopG (m + 1) acc s' = (acc, s') := by simp only [loopG, hws]; simp
     rw [hR] at hrun
     rw [hws] at hw0
     simp only [List.length_nil] at hw0
     subst hrun
     have r0 := hp.rb.all_1
     have g0 := hp.rb.fro 0
     have HG := Lib.hid (grown_1 wr w.heap.size (.slice A ys.length cap))
     have y0' := hp.bx.all_1
     clear hR hws hp hla hen hbd hwl
     go_wp2_with fail
     have z0 := (HPB.out.rb.to_1 (.slice A ys.length cap)).all_1
     (try simp only [Exit.inBlock, Exit.then])
     refine bodyPost_ret (v := .agg #[.slice A ys.length cap]) (by simp [results, Tryz.results15, go_sem, z0]) rfl ?_
     exact ⟨A, cap, ys, rfl, (HPB.out.rw'.fk.grown HG.out (by omega)).mono (by omega), HPB.out.bq, Mv.over (Below.refl _ _) HPB.out.mv HG.out (Nat.le_refl _) hlt⟩
   | cons x0 l0 =>
     obtain ⟨q, hq⟩ : ∃ q, clsC s' = q := ⟨_, rfl⟩
     have hR : loopG (m + 1) acc s' = loopG m (acc ++ [q.1]) q.2 := by simp only [loopG, hws, hq]; simp
     rw [hR] at hrun
     have h1 : s'.len = l0.length + 1 := by simp [RS.len, hws]
     have h3 : q.2.len ≤ s'.len - 1 := by rw [← hq]; exact len_clsC s'
     have HXQ := Lib.hid (HX.out s' wr.drew hp.mv.2.drew)
     rw [hq] at HXQ
     have HPD := Lib.hid (hp.below (Below.refl _ wr).drew)
     have HRUN := Lib.hid hrun
     have hpl : (0 : Int) < ((l0.length + 1 : Nat) : Int) := by omega
     have y0 := hp.bx.all_1
     have hsw : wr.drew.heap.size = wr.heap.size := rfl
     have hbl := hp.bx.lt
     rw [hws] at hw0
     simp only [List.length_cons] at hw0
     clear hR hrun hq hp hws hwl
     go_wp2_with fail
     go_region_law (first
       | (refine step_append_lies _ rfl (.tmp 11) (.tmp 14) 27 rfl (w.heap.size + 2) 48 i0 _ 4 80 Tryz.underlying27 hi hz0 hzz1 hzz2 rfl (by decide) _ _ _ rfl HO6.out.1 ⟨w5.heap.size, 0, none⟩ 1 1 _ rfl (by simp [cellsN]) (fun j u hj => HYR.out.1.cells (g := w5.heap.size) rfl j u hj) HYR.out.one' (by decide) (by unfold maxLen; first | omega | (simp; omega)) (by first | omega | (simp; omega)) HC6.out _ rfl ?_; intro g c3 w7 ho7 hg7 hat7 hlt7; have HO7 := Lib.hid (OwnT.app HO6.out HYR.out HB6.out HV6.out (by simp) ho7 hg7 (hat7.elim (fun e => .inl e.symm) (fun e => .inr (by rw [e]; rfl))) (by first | omega | (simp; omega))); have HPX := Lib.hid (HP6.out.box hg7); have d0 := HPX.out.all_1; have g0 := HPX.out.fro 0; have HPUT := Lib.hid (HP6.out.put (A3 := some ⟨g, 0, none⟩) (c3 := c3) HBQ.out HO7.out hg7 (by simp)); clear ho7 hg7 hat7 hlt7)
       | (go_simp; go_wp2_with (go_at_call 26; refine HXQ.out.mono ?_; rintro e w5 ⟨nm, sp, Af, Am, cf, cm, fs, gs, rfl, hk, hm⟩; have HP5 := Lib.hid (HPD.out.move hm); have HBQ := Lib.hid hk.2.2; have hb6 : Below w5.heap.size w5 (w5.alloc (.cells #[.string nm, .string sp, .slice Af fs.length cf, .slice Am gs.length cm] 48)) := (Below.refl _ _).alloc (Nat.le_refl _) _; have HP6 := Lib.hid (HP5.out.below hb6); have HO6 := Lib.hid HP6.out.rw'; have hsz5 := hm.1.size; have HYR := Lib.hid (OwnT.one (T := 48) hk (show wr.drew.heap.size ≤ w5.heap.size from hsz5)); have HB6 := Lib.hid (show w.heap.size + 2 ≤ wr.drew.heap.size from hbl); have HV6 := Lib.hid (fun k hk' => (HPD.out.rw'.lt k hk').2); have HC6 := Lib.hid (Nat.le_trans hbl (Nat.le_trans hsz5 hb6.size)); have b0 := HP5.out.bx.all_1; have b1 := HP6.out.bx.all_1; simp only [cellsN] at HYR; clear hk hm hb6)))
     all_goals
       go_wp2_with fail
       go_roundw
       case rel => exact ⟨m, _, q.2, _, _, _, HRUN.out, by omega, HPUT.out, by simp; omega⟩
       case measure => (refine Nat.lt_of_le_of_lt (Nat.le_of_eq (lenAt_of HPUT.out.mv.2)) ?_; rw [hla]; omega)
end
end Go.Proofs.YtipcoglddfgopaaGreatDoor
