/- Parts of the proof: ClC, ClD, ClE. -/
import Derived.Test.YtnbfajmdfkgebaaGreatDoorP34
import Derived.Deep.Cut
import Derived.Deep.AppendLies
set_option maxHeartbeats 4000000
set_option maxRecDepth 100000
namespace Go.Proofs.YtnbfajmdfkgebaaGreatDoor
set_option linter.unusedSimpArgs false
set_option linter.unusedVariables false
section
open Go.RowKit
def MbC (W0 : World) (c : Nat) (w : World) (r : Nd × RS) (e : Ending) (w' : World) : Prop := ∃ y, Mv W0 c r.2 w w' ∧ ((e = .returned (.iface 61 (.agg (cellsN y).toArray)) ∧ FdF y ∧ NK .fd w.heap.size none w' r.1 y) ∨ (e = .returned (.iface 48 (.agg (cellsN y).toArray)) ∧ MtF y ∧ NK .mt w.heap.size none w' r.1 y))
theorem member_ctor (HE : ExAny) (HAR : ArAny) (W0 w : World) (c : Nat) (s : RS) (own : ByteArray) (hv : Vars W0) (h : Rd W0 c s w) (h0 : s.sees 0 kStatic = false) (h1 : (s.take kStatic).ctorB own = true) : Calls Tryz.prog 60 #[.pointer (some ⟨c, 0, none⟩), .string own] w (MbC W0 c w (memM own s)) := by
 have hne : (s.take kStatic).ws ≠ [] := by
   intro e
   simp [RS.ctorB, e, clP] at h1
 have HRE : Hid (memM own s = ctoM (s.take kStatic)) := Lib.hid (by simp only [memM, h0, h1, and_self, if_true])
 obtain ⟨RR, hRR⟩ : ∃ RR, memM own s = RR := ⟨_, rfl⟩
 rw [hRR] at HRE ⊢
 have HT0 := Lib.hid (take_any W0 w c s kStatic h)
 rw [h0] at HT0
 obtain ⟨s1, hs1⟩ : ∃ s1, s.take kStatic = s1 := ⟨_, rfl⟩
 rw [hs1] at HT0
 rw [hs1] at HRE h1 hne
 have HC : Hid (∀ w', Rd W0 c (s1) w' → Calls Tryz.prog 84 #[.pointer (some ⟨c, 0, none⟩), .string own] w' fun e w'' => e = .returned (.bool true) ∧ w' = w'') := by
   show ∀ w', _
   intro w' h'; have := starts_any W0 w' c s1 own h'; rw [h1] at this; exact this
 have HS : Hid (∀ w', Rd W0 c s1 w' → Calls Tryz.prog 85 #[.pointer (some ⟨c, 0, none⟩)] w' (MtC W0 c w' RR)) := by
   show ∀ w', _
   intro w' h'; have := ctor_any HE HAR W0 w' c s1 hv h' hne; rw [HRE.out]; exact this
 clear hRR hs1 h hv HE HAR h0 h1 hne
 go_enter Tryz.func60, Tryz.ntmps60
 go_wp2_with fail
 refine HT0.out.mono ?_
 clear HT0
 rintro e w1 ⟨rfl, hm⟩
 have HM := Lib.hid hm
 clear hm
 go_wp2_with fail
 refine (HC.out _ HM.out.2).mono ?_
 clear HC
 rintro e w2 ⟨rfl, rfl⟩
 go_wp2_with fail
 refine (HS.out _ HM.out.2).mono ?_
 clear HS
 rintro e w9 ⟨y, rfl, ⟨st, ct, ty, nm, A1, A2, c1, c2, ps, l, rfl⟩, hk, hm⟩
 have HK := Lib.hid (hk.mono (show w.heap.size ≤ _ from HM.out.1.size))
 replace HM := Lib.hid (HM.out.trans hm)
 clear hk hm
 simp only [cellsN]
 go_wp2_with fail
 go_ret
 exact ⟨_, HM.out, .inr ⟨rfl, ⟨_, _, _, _, _, _, _, _, _, _, rfl⟩, HK.out⟩⟩
theorem member_void_false (HE : ExAny) (HAR : ArAny) (W0 w : World) (c : Nat) (s : RS) (own : ByteArray) (hv : Vars W0) (h : Rd W0 c s w) (h0 : s.sees 0 kStatic = false) (h1 : (s.take kStatic).ctorB own = false) (h2 : (s.take kStatic).sees 0 kVoid = true) : Calls Tryz.prog 60 #[.pointer (some ⟨c, 0, none⟩), .string own] w (MbC W0 c w (memM own s)) := by
 have HRE : Hid (memM own s = metM false kVoid (s.take kStatic).skip.nameV (s.take kStatic).skip.name) := Lib.hid (by simp only [memM, h0, h1, h2]; simp)
 obtain ⟨RR, hRR⟩ : ∃ RR, memM own s = RR := ⟨_, rfl⟩
 rw [hRR] at HRE ⊢
 have HT0 := Lib.hid (take_any W0 w c s kStatic h)
 rw [h0] at HT0
 obtain ⟨s1, hs1⟩ : ∃ s1, s.take kStatic = s1 := ⟨_, rfl⟩
 rw [hs1] at HT0
 rw [hs1] at HRE h2 h1
 have HC : Hid (∀ w', Rd W0 c (s1) w' → Calls Tryz.prog 84 #[.pointer (some ⟨c, 0, none⟩), .string own] w' fun e w'' => e = .returned (.bool false) ∧ w' = w'') := by
   show ∀ w', _
   intro w' h'; have := starts_any W0 w' c s1 own h'; rw [h1] at this; exact this
 have HV : Hid (∀ w', Rd W0 c (s1) w' → Calls Tryz.prog 57 #[.pointer (some ⟨c, 0, none⟩), .string kVoid] w' fun e w'' => e = .returned (.bool true) ∧ Mv W0 c (RS.skip (s1)) w' w'') := by
   show ∀ w', _
   intro w' h'; exact take_true W0 w' c s1 kVoid h' h2
 have hnm := name_len s1.skip
 obtain ⟨nm, hnme⟩ : ∃ nm, s1.skip.nameV = nm := ⟨_, rfl⟩
 have HN : Hid (∀ w', Rd W0 c (s1.skip) w' → Calls Tryz.prog 87 #[.pointer (some ⟨c, 0, none⟩)] w' fun e w'' => e = .returned (.string s1.skip.nameV) ∧ Mv W0 c (s1.skip.name) w' w'') := by
   show ∀ w', _
   intro w' h'; exact nameR_any W0 w' c _ h'
 rw [hnme] at HN HRE hnm
 have HS : Hid (∀ w', Rd W0 c (s1.skip.name) w' → Calls Tryz.prog 86 #[.pointer (some ⟨c, 0, none⟩), .agg #[.bool false, .bool false, .string kVoid, .string nm, .slice none 0 0, .slice none 0 0]] w' (MtC W0 c w' RR)) := by
   show ∀ w', _
   intro w' h'; have := method_any HE HAR W0 w' c _ false kVoid nm (by unfold kVoid maxLen; decide) hnm hv h'; rw [HRE.out]; exact this
 clear hRR hs1 h hv HE HAR h0 h1 h2 hnme
 go_enter Tryz.func60, Tryz.ntmps60
 go_wp2_with fail
 refine HT0.out.mono ?_
 clear HT0
 rintro e w1 ⟨rfl, hm⟩
 have HM := Lib.hid hm
 clear hm
 go_wp2_with fail
 refine (HC.out _ HM.out.2).mono ?_
 clear HC
 rintro e w2 ⟨rfl, rfl⟩
 go_wp2_with fail
 refine (HV.out _ HM.out.2).mono ?_
 clear HV
 rintro e w2 ⟨rfl, hm⟩
 replace HM := Lib.hid (HM.out.trans hm)
 clear hm
 go_wp2_with fail
 refine (HN.out _ HM.out.2).mono ?_
 clear HN
 rintro e w2 ⟨rfl, hm⟩
 replace HM := Lib.hid (HM.out.trans hm)
 clear hm
 go_wp2_with fail
 refine (HS.out _ HM.out.2).mono ?_
 clear HS
 rintro e w9 ⟨y, rfl, ⟨st, ct, ty, nm, A1, A2, c1, c2, ps, l, rfl⟩, hk, hm⟩
 have HK := Lib.hid (hk.mono (show w.heap.size ≤ _ from HM.out.1.size))
 replace HM := Lib.hid (HM.out.trans hm)
 clear hk hm
 simp only [cellsN]
 go_wp2_with fail
 go_ret
 exact ⟨_, HM.out, .inr ⟨rfl, ⟨_, _, _, _, _, _, _, _, _, _, rfl⟩, HK.out⟩⟩
theorem member_method_false (HE : ExAny) (HAR : ArAny) (W0 w : World) (c : Nat) (s : RS) (own : ByteArray) (hv : Vars W0) (h : Rd W0 c s w) (h0 : s.sees 0 kStatic = false) (h1 : (s.take kStatic).ctorB own = false) (h2 : (s.take kStatic).sees 0 kVoid = false) (h3 : (s.take kStatic).typ.name.sees 0 sOpen = true) : Calls Tryz.prog 60 #[.pointer (some ⟨c, 0, none⟩), .string own] w (MbC W0 c w (memM own s)) := by
 have HRE : Hid (memM own s = metM false (s.take kStatic).typV (s.take kStatic).typ.nameV (s.take kStatic).typ.name) := Lib.hid (by simp only [memM, h0, h1, h2, h3]; simp)
 obtain ⟨RR, hRR⟩ : ∃ RR, memM own s = RR := ⟨_, rfl⟩
 rw [hRR] at HRE ⊢
 have HT0 := Lib.hid (take_any W0 w c s kStatic h)
 rw [h0] at HT0
 obtain ⟨s1, hs1⟩ : ∃ s1, s.take kStatic = s1 := ⟨_, rfl⟩
 rw [hs1] at HT0
 rw [hs1] at HRE h2 h1 h3
 have HC : Hid (∀ w', Rd W0 c (s1) w' → Calls Tryz.prog 84 #[.pointer (some ⟨c, 0, none⟩), .string own] w' fun e w'' => e = .returned (.bool false) ∧ w' = w'') := by
   show ∀ w', _
   intro w' h'; have := starts_any W0 w' c s1 own h'; rw [h1] at this; exact this
 have HV : Hid (∀ w', Rd W0 c (s1) w' → Calls Tryz.prog 57 #[.pointer (some ⟨c, 0, none⟩), .string kVoid] w' fun e w'' => e = .returned (.bool false) ∧ w' = w'') := by
   show ∀ w', _
   intro w' h'; exact take_false W0 w' c s1 kVoid h' h2
 have hty := typ_len s1
 have hnm := name_len s1.typ
 obtain ⟨tv, htve⟩ : ∃ tv, s1.typV = tv := ⟨_, rfl⟩
 obtain ⟨nm, hnme⟩ : ∃ nm, s1.typ.nameV = nm := ⟨_, rfl⟩
 have HY : Hid (∀ w', Rd W0 c (s1) w' → Calls Tryz.prog 88 #[.pointer (some ⟨c, 0, none⟩)] w' fun e w'' => e = .returned (.string s1.typV) ∧ Mv W0 c (s1.typ) w' w'') := by
   show ∀ w', _
   intro w' h'; exact type_any W0 w' c _ h'
 have HN : Hid (∀ w', Rd W0 c (s1.typ) w' → Calls Tryz.prog 87 #[.pointer (some ⟨c, 0, none⟩)] w' fun e w'' => e = .returned (.string s1.typ.nameV) ∧ Mv W0 c (s1.typ.name) w' w'') := by
   show ∀ w', _
   intro w' h'; exact nameR_any W0 w' c _ h'
 rw [htve] at HY HRE hty
 rw [hnme] at HN HRE hnm
 have HO : Hid (∀ w', Rd W0 c (s1.typ.name) w' → Calls Tryz.prog 83 #[.pointer (some ⟨c, 0, none⟩), .string sOpen] w' fun e w'' => e = .returned (.bool true) ∧ w' = w'') := by
   show ∀ w', _
   intro w' h'; exact sees_is W0 w' c _ sOpen _ h' h3
 have HS : Hid (∀ w', Rd W0 c (s1.typ.name) w' → Calls Tryz.prog 86 #[.pointer (some ⟨c, 0, none⟩), .agg #[.bool false, .bool false, .string tv, .string nm, .slice none 0 0, .slice none 0 0]] w' (MtC W0 c w' RR)) := by
   show ∀ w', _
   intro w' h'; have := method_any HE HAR W0 w' c _ false tv nm hty hnm hv h'; rw [HRE.out]; exact this
 clear hRR hs1 h hv HE HAR h0 h1 h2 h3 hnme htve
 go_enter Tryz.func60, Tryz.ntmps60
 go_wp2_with fail
 refine HT0.out.mono ?_
 clear HT0
 rintro e w1 ⟨rfl, hm⟩
 have HM := Lib.hid hm
 clear hm
 go_wp2_with fail
 refine (HC.out _ HM.out.2).mono ?_
 clear HC
 rintro e w2 ⟨rfl, rfl⟩
 go_wp2_with fail
 refine (HV.out _ HM.out.2).mono ?_
 clear HV
 rintro e w2 ⟨rfl, rfl⟩
 go_wp2_with fail
 refine (HY.out _ HM.out.2).mono ?_
 clear HY
 rintro e w2 ⟨rfl, hm⟩
 replace HM := Lib.hid (HM.out.trans hm)
 clear hm
 go_wp2_with fail
 refine (HN.out _ HM.out.2).mono ?_
 clear HN
 rintro e w2 ⟨rfl, hm⟩
 replace HM := Lib.hid (HM.out.trans hm)
 clear hm
 go_wp2_with fail
 refine (HO.out _ HM.out.2).mono ?_
 clear HO
 rintro e w2 ⟨rfl, rfl⟩
 go_wp2_with fail
 refine (HS.out _ HM.out.2).mono ?_
 clear HS
 rintro e w9 ⟨y, rfl, ⟨st, ct, ty, nm, A1, A2, c1, c2, ps, l, rfl⟩, hk, hm⟩
 have HK := Lib.hid (hk.mono (show w.heap.size ≤ _ from HM.out.1.size))
 replace HM := Lib.hid (HM.out.trans hm)
 clear hk hm
 simp only [cellsN]
 go_wp2_with fail
 go_ret
 exact ⟨_, HM.out, .inr ⟨rfl, ⟨_, _, _, _, _, _, _, _, _, _, rfl⟩, HK.out⟩⟩
theorem member_field_false (HE : ExAny) (HAR : ArAny) (W0 w : World) (c : Nat) (s : RS) (own : ByteArray) (hv : Vars W0) (h : Rd W0 c s w) (h0 : s.sees 0 kStatic = false) (h1 : (s.take kStatic).ctorB own = false) (h2 : (s.take kStatic).sees 0 kVoid = false) (h3 : (s.take kStatic).typ.name.sees 0 sOpen = false) : Calls Tryz.prog 60 #[.pointer (some ⟨c, 0, none⟩), .string own] w (MbC W0 c w (memM own s)) := by
 have HRE : Hid (memM own s = fldM false (s.take kStatic).typV (s.take kStatic).typ.nameV (s.take kStatic).typ.name) := Lib.hid (by simp only [memM, h0, h1, h2, h3]; simp)
 obtain ⟨RR, hRR⟩ : ∃ RR, memM own s = RR := ⟨_, rfl⟩
 rw [hRR] at HRE ⊢
 have HT0 := Lib.hid (take_any W0 w c s kStatic h)
 rw [h0] at HT0
 obtain ⟨s1, hs1⟩ : ∃ s1, s.take kStatic = s1 := ⟨_, rfl⟩
 rw [hs1] at HT0
 rw [hs1] at HRE h2 h1 h3
 have HC : Hid (∀ w', Rd W0 c (s1) w' → Calls Tryz.prog 84 #[.pointer (some ⟨c, 0, none⟩), .string own] w' fun e w'' => e = .returned (.bool false) ∧ w' = w'') := by
   show ∀ w', _
   intro w' h'; have := starts_any W0 w' c s1 own h'; rw [h1] at this; exact this
 have HV : Hid (∀ w', Rd W0 c (s1) w' → Calls Tryz.prog 57 #[.pointer (some ⟨c, 0, none⟩), .string kVoid] w' fun e w'' => e = .returned (.bool false) ∧ w' = w'') := by
   show ∀ w', _
   intro w' h'; exact take_false W0 w' c s1 kVoid h' h2
 have hty := typ_len s1
 have hnm := name_len s1.typ
 obtain ⟨tv, htve⟩ : ∃ tv, s1.typV = tv := ⟨_, rfl⟩
 obtain ⟨nm, hnme⟩ : ∃ nm, s1.typ.nameV = nm := ⟨_, rfl⟩
 have HY : Hid (∀ w', Rd W0 c (s1) w' → Calls Tryz.prog 88 #[.pointer (some ⟨c, 0, none⟩)] w' fun e w'' => e = .returned (.string s1.typV) ∧ Mv W0 c (s1.typ) w' w'') := by
   show ∀ w', _
   intro w' h'; exact type_any W0 w' c _ h'
 have HN : Hid (∀ w', Rd W0 c (s1.typ) w' → Calls Tryz.prog 87 #[.pointer (some ⟨c, 0, none⟩)] w' fun e w'' => e = .returned (.string s1.typ.nameV) ∧ Mv W0 c (s1.typ.name) w' w'') := by
   show ∀ w', _
   intro w' h'; exact nameR_any W0 w' c _ h'
 rw [htve] at HY HRE hty
 rw [hnme] at HN HRE hnm
 have HO : Hid (∀ w', Rd W0 c (s1.typ.name) w' → Calls Tryz.prog 83 #[.pointer (some ⟨c, 0, none⟩), .string sOpen] w' fun e w'' => e = .returned (.bool false) ∧ w' = w'') := by
   show ∀ w', _
   intro w' h'; exact sees_is W0 w' c _ sOpen _ h' h3
 have HS : Hid (∀ w', Rd W0 c (s1.typ.name) w' → Calls Tryz.prog 89 #[.pointer (some ⟨c, 0, none⟩), .agg #[.bool false, .string tv, .string nm, .slice none 0 0]] w' (FdC W0 c w' RR)) := by
   show ∀ w', _
   intro w' h'; have := field_any HE W0 w' c _ false tv nm hty hnm hv h'; rw [HRE.out]; exact this
 clear hRR hs1 h hv HE HAR h0 h1 h2 h3 hnme htve
 go_enter Tryz.func60, Tryz.ntmps60
 go_wp2_with fail
 refine HT0.out.mono ?_
 clear HT0
 rintro e w1 ⟨rfl, hm⟩
 have HM := Lib.hid hm
 clear hm
 go_wp2_with fail
 refine (HC.out _ HM.out.2).mono ?_
 clear HC
 rintro e w2 ⟨rfl, rfl⟩
 go_wp2_with fail
 refine (HV.out _ HM.out.2).mono ?_
 clear HV
 rintro e w2 ⟨rfl, rfl⟩
 go_wp2_with fail
 refine (HY.out _ HM.out.2).mono ?_
 clear HY
 rintro e w2 ⟨rfl, hm⟩
 replace HM := Lib.hid (HM.out.trans hm)
 clear hm
 go_wp2_with fail
 refine (HN.out _ HM.out.2).mono ?_
 clear HN
 rintro e w2 ⟨rfl, hm⟩
 replace HM := Lib.hid (HM.out.trans hm)
 clear hm
 go_wp2_with fail
 refine (HO.out _ HM.out.2).mono ?_
 clear HO
 rintro e w2 ⟨rfl, rfl⟩
 go_wp2_with fail
 refine (HS.out _ HM.out.2).mono ?_
 clear HS
 rintro e w9 ⟨y, rfl, ⟨st, ty, nm, A1, c1, l, rfl⟩, hk, hm⟩
 have HK := Lib.hid (hk.mono (show w.heap.size ≤ _ from HM.out.1.size))
 replace HM := Lib.hid (HM.out.trans hm)
 clear hk hm
 simp only [cellsN]
 go_wp2_with fail
 go_ret
 exact ⟨_, HM.out, .inl ⟨rfl, ⟨_, _, _, _, _, _, rfl⟩, HK.out⟩⟩
theorem member_void_true (HE : ExAny) (HAR : ArAny) (W0 w : World) (c : Nat) (s : RS) (own : ByteArray) (hv : Vars W0) (h : Rd W0 c s w) (h0 : s.sees 0 kStatic = true) (h2 : (s.take kStatic).sees 0 kVoid = true) : Calls Tryz.prog 60 #[.pointer (some ⟨c, 0, none⟩), .string own] w (MbC W0 c w (memM own s)) := by
 have HRE : Hid (memM own s = metM true kVoid (s.take kStatic).skip.nameV (s.take kStatic).skip.name) := Lib.hid (by simp only [memM, h0, h2]; simp)
 obtain ⟨RR, hRR⟩ : ∃ RR, memM own s = RR := ⟨_, rfl⟩
 rw [hRR] at HRE ⊢
 have HT0 := Lib.hid (take_any W0 w c s kStatic h)
 rw [h0] at HT0
 obtain ⟨s1, hs1⟩ : ∃ s1, s.take kStatic = s1 := ⟨_, rfl⟩
 rw [hs1] at HT0
 rw [hs1] at HRE h2
 have HV : Hid (∀ w', Rd W0 c (s1) w' → Calls Tryz.prog 57 #[.pointer (some ⟨c, 0, none⟩), .string kVoid] w' fun e w'' => e = .returned (.bool true) ∧ Mv W0 c (RS.skip (s1)) w' w'') := by
   show ∀ w', _
   intro w' h'; exact take_true W0 w' c s1 kVoid h' h2
 have hnm := name_len s1.skip
 obtain ⟨nm, hnme⟩ : ∃ nm, s1.skip.nameV = nm := ⟨_, rfl⟩
 have HN : Hid (∀ w', Rd W0 c (s1.skip) w' → Calls Tryz.prog 87 #[.pointer (some ⟨c, 0, none⟩)] w' fun e w'' => e = .returned (.string s1.skip.nameV) ∧ Mv W0 c (s1.skip.name) w' w'') := by
   show ∀ w', _
   intro w' h'; exact nameR_any W0 w' c _ h'
 rw [hnme] at HN HRE hnm
 have HS : Hid (∀ w', Rd W0 c (s1.skip.name) w' → Calls Tryz.prog 86 #[.pointer (some ⟨c, 0, none⟩), .agg #[.bool true, .bool false, .string kVoid, .string nm, .slice none 0 0, .slice none 0 0]] w' (MtC W0 c w' RR)) := by
   show ∀ w', _
   intro w' h'; have := method_any HE HAR W0 w' c _ true kVoid nm (by unfold kVoid maxLen; decide) hnm hv h'; rw [HRE.out]; exact this
 clear hRR hs1 h hv HE HAR h0 h2 hnme
 go_enter Tryz.func60, Tryz.ntmps60
 go_wp2_with fail
 refine HT0.out.mono ?_
 clear HT0
 rintro e w1 ⟨rfl, hm⟩
 have HM := Lib.hid hm
 clear hm
 go_wp2_with fail
 refine (HV.out _ HM.out.2).mono ?_
 clear HV
 rintro e w2 ⟨rfl, hm⟩
 replace HM := Lib.hid (HM.out.trans hm)
 clear hm
 go_wp2_with fail
 refine (HN.out _ HM.out.2).mono ?_
 clear HN
 rintro e w2 ⟨rfl, hm⟩
 replace HM := Lib.hid (HM.out.trans hm)
 clear hm
 go_wp2_with fail
 refine (HS.out _ HM.out.2).mono ?_
 clear HS
 rintro e w9 ⟨y, rfl, ⟨st, ct, ty, nm, A1, A2, c1, c2, ps, l, rfl⟩, hk, hm⟩
 have HK := Lib.hid (hk.mono (show w.heap.size ≤ _ from HM.out.1.size))
 replace HM := Lib.hid (HM.out.trans hm)
 clear hk hm
 simp only [cellsN]
 go_wp2_with fail
 go_ret
 exact ⟨_, HM.out, .inr ⟨rfl, ⟨_, _, _, _, _, _, _, _, _, _, rfl⟩, HK.out⟩⟩
theorem member_method_true (HE : ExAny) (HAR : ArAny) (W0 w : World) (c : Nat) (s : RS) (own : ByteArray) (hv : Vars W0) (h : Rd W0 c s w) (h0 : s.sees 0 kStatic = true) (h2 : (s.take kStatic).sees 0 kVoid = false) (h3 : (s.take kStatic).typ.name.sees 0 sOpen = true) : Calls Tryz.prog 60 #[.pointer (some ⟨c, 0, none⟩), .string own] w (MbC W0 c w (memM own s)) := by
 have HRE : Hid (memM own s = metM true (s.take kStatic).typV (s.take kStatic).typ.nameV (s.take kStatic).typ.name) := Lib.hid (by simp only [memM, h0, h2, h3]; simp)
 obtain ⟨RR, hRR⟩ : ∃ RR, memM own s = RR := ⟨_, rfl⟩
 rw [hRR] at HRE ⊢
 have HT0 := Lib.hid (take_any W0 w c s kStatic h)
 rw [h0] at HT0
 obtain ⟨s1, hs1⟩ : ∃ s1, s.take kStatic = s1 := ⟨_, rfl⟩
 rw [hs1] at HT0
 rw [hs1] at HRE h2 h3
 have HV : Hid (∀ w', Rd W0 c (s1) w' → Calls Tryz.prog 57 #[.pointer (some ⟨c, 0, none⟩), .string kVoid] w' fun e w'' => e = .returned (.bool false) ∧ w' = w'') := by
   show ∀ w', _
   intro w' h'; exact take_false W0 w' c s1 kVoid h' h2
 have hty := typ_len s1
 have hnm := name_len s1.typ
 obtain ⟨tv, htve⟩ : ∃ tv, s1.typV = tv := ⟨_, rfl⟩
 obtain ⟨nm, hnme⟩ : ∃ nm, s1.typ.nameV = nm := ⟨_, rfl⟩
 have HY : Hid (∀ w', Rd W0 c (s1) w' → Calls Tryz.prog 88 #[.pointer (some ⟨c, 0, none⟩)] w' fun e w'' => e = .returned (.string s1.typV) ∧ Mv W0 c (s1.typ) w' w'') := by
   show ∀ w', _
   intro w' h'; exact type_any W0 w' c _ h'
 have HN : Hid (∀ w', Rd W0 c (s1.typ) w' → Calls Tryz.prog 87 #[.pointer (some ⟨c, 0, none⟩)] w' fun e w'' => e = .returned (.string s1.typ.nameV) ∧ Mv W0 c (s1.typ.name) w' w'') := by
   show ∀ w', _
   intro w' h'; exact nameR_any W0 w' c _ h'
 rw [htve] at HY HRE hty
 rw [hnme] at HN HRE hnm
 have HO : Hid (∀ w', Rd W0 c (s1.typ.name) w' → Calls Tryz.prog 83 #[.pointer (some ⟨c, 0, none⟩), .string sOpen] w' fun e w'' => e = .returned (.bool true) ∧ w' = w'') := by
   show ∀ w', _
   intro w' h'; exact sees_is W0 w' c _ sOpen _ h' h3
 have HS : Hid (∀ w', Rd W0 c (s1.typ.name) w' → Calls Tryz.prog 86 #[.pointer (some ⟨c, 0, none⟩), .agg #[.bool true, .bool false, .string tv, .string nm, .slice none 0 0, .slice none 0 0]] w' (MtC W0 c w' RR)) := by
   show ∀ w', _
   intro w' h'; have := method_any HE HAR W0 w' c _ true tv nm hty hnm hv h'; rw [HRE.out]; exact this
 clear hRR hs1 h hv HE HAR h0 h2 h3 hnme htve
 go_enter Tryz.func60, Tryz.ntmps60
 go_wp2_with fail
 refine HT0.out.mono ?_
 clear HT0
 rintro e w1 ⟨rfl, hm⟩
 have HM := Lib.hid hm
 clear hm
 go_wp2_with fail
 refine (HV.out _ HM.out.2).mono ?_
 clear HV
 rintro e w2 ⟨rfl, rfl⟩
 go_wp2_with fail
 refine (HY.out _ HM.out.2).mono ?_
 clear HY
 rintro e w2 ⟨rfl, hm⟩
 replace HM := Lib.hid (HM.out.trans hm)
 clear hm
 go_wp2_with fail
 refine (HN.out _ HM.out.2).mono ?_
 clear HN
 rintro e w2 ⟨rfl, hm⟩
 replace HM := Lib.hid (HM.out.trans hm)
 clear hm
 go_wp2_with fail
 refine (HO.out _ HM.out.2).mono ?_
 clear HO
 rintro e w2 ⟨rfl, rfl⟩
 go_wp2_with fail
 refine (HS.out _ HM.out.2).mono ?_
 clear HS
 rintro e w9 ⟨y, rfl, ⟨st, ct, ty, nm, A1, A2, c1, c2, ps, l, rfl⟩, hk, hm⟩
 have HK := Lib.hid (hk.mono (show w.heap.size ≤ _ from HM.out.1.size))
 replace HM := Lib.hid (HM.out.trans hm)
 clear hk hm
 simp only [cellsN]
 go_wp2_with fail
 go_ret
 exact ⟨_, HM.out, .inr ⟨rfl, ⟨_, _, _, _, _, _, _, _, _, _, rfl⟩, HK.out⟩⟩
theorem member_field_true (HE : ExAny) (HAR : ArAny) (W0 w : World) (c : Nat) (s : RS) (own : ByteArray) (hv : Vars W0) (h : Rd W0 c s w) (h0 : s.sees 0 kStatic = true) (h2 : (s.take kStatic).sees 0 kVoid = false) (h3 : (s.take kStatic).typ.name.sees 0 sOpen = false) : Calls Tryz.prog 60 #[.pointer (some ⟨c, 0, none⟩), .string own] w (MbC W0 c w (memM own s)) := by
 have HRE : Hid (memM own s = fldM true (s.take kStatic).typV (s.take kStatic).typ.nameV (s.take kStatic).typ.name) := Lib.hid (by simp only [memM, h0, h2, h3]; simp)
 obtain ⟨RR, hRR⟩ : ∃ RR, memM own s = RR := ⟨_, rfl⟩
 rw [hRR] at HRE ⊢
 have HT0 := Lib.hid (take_any W0 w c s kStatic h)
 rw [h0] at HT0
 obtain ⟨s1, hs1⟩ : ∃ s1, s.take kStatic = s1 := ⟨_, rfl⟩
 rw [hs1] at HT0
 rw [hs1] at HRE h2 h3
 have HV : Hid (∀ w', Rd W0 c (s1) w' → Calls Tryz.prog 57 #[.pointer (some ⟨c, 0, none⟩), .string kVoid] w' fun e w'' => e = .returned (.bool false) ∧ w' = w'') := by
   show ∀ w', _
   intro w' h'; exact take_false W0 w' c s1 kVoid h' h2
 have hty := typ_len s1
 have hnm := name_len s1.typ
 obtain ⟨tv, htve⟩ : ∃ tv, s1.typV = tv := ⟨_, rfl⟩
 obtain ⟨nm, hnme⟩ : ∃ nm, s1.typ.nameV = nm := ⟨_, rfl⟩
 have HY : Hid (∀ w', Rd W0 c (s1) w' → Calls Tryz.prog 88 #[.pointer (some ⟨c, 0, none⟩)] w' fun e w'' => e = .returned (.string s1.typV) ∧ Mv W0 c (s1.typ) w' w'') := by
   show ∀ w', _
   intro w' h'; exact type_any W0 w' c _ h'
 have HN : Hid (∀ w', Rd W0 c (s1.typ) w' → Calls Tryz.prog 87 #[.pointer (some ⟨c, 0, none⟩)] w' fun e w'' => e = .returned (.string s1.typ.nameV) ∧ Mv W0 c (s1.typ.name) w' w'') := by
   show ∀ w', _
   intro w' h'; exact nameR_any W0 w' c _ h'
 rw [htve] at HY HRE hty
 rw [hnme] at HN HRE hnm
 have HO : Hid (∀ w', Rd W0 c (s1.typ.name) w' → Calls Tryz.prog 83 #[.pointer (some ⟨c, 0, none⟩), .string sOpen] w' fun e w'' => e = .returned (.bool false) ∧ w' = w'') := by
   show ∀ w', _
   intro w' h'; exact sees_is W0 w' c _ sOpen _ h' h3
 have HS : Hid (∀ w', Rd W0 c (s1.typ.name) w' → Calls Tryz.prog 89 #[.pointer (some ⟨c, 0, none⟩), .agg #[.bool true, .string tv, .string nm, .slice none 0 0]] w' (FdC W0 c w' RR)) := by
   show ∀ w', _
   intro w' h'; have := field_any HE W0 w' c _ true tv nm hty hnm hv h'; rw [HRE.out]; exact this
 clear hRR hs1 h hv HE HAR h0 h2 h3 hnme htve
 go_enter Tryz.func60, Tryz.ntmps60
 go_wp2_with fail
 refine HT0.out.mono ?_
 clear HT0
 rintro e w1 ⟨rfl, hm⟩
 have HM := Lib.hid hm
 clear hm
 go_wp2_with fail
 refine (HV.out _ HM.out.2).mono ?_
 clear HV
 rintro e w2 ⟨rfl, rfl⟩
 go_wp2_with fail
 refine (HY.out _ HM.out.2).mono ?_
 clear HY
 rintro e w2 ⟨rfl, hm⟩
 replace HM := Lib.hid (HM.out.trans hm)
 clear hm
 go_wp2_with fail
 refine (HN.out _ HM.out.2).mono ?_
 clear HN
 rintro e w2 ⟨rfl, hm⟩
 replace HM := Lib.hid (HM.out.trans hm)
 clear hm
 go_wp2_with fail
 refine (HO.out _ HM.out.2).mono ?_
 clear HO
 rintro e w2 ⟨rfl, rfl⟩
 go_wp2_with fail
 refine (HS.out _ HM.out.2).mono ?_
 clear HS
 rintro e w9 ⟨y, rfl, ⟨st, ty, nm, A1, c1, l, rfl⟩, hk, hm⟩
 have HK := Lib.hid (hk.mono (show w.heap.size ≤ _ from HM.out.1.size))
 replace HM := Lib.hid (HM.out.trans hm)
 clear hk hm
 simp only [cellsN]
 go_wp2_with fail
 go_ret
 exact ⟨_, HM.out, .inl ⟨rfl, ⟨_, _, _, _, _, _, rfl⟩, HK.out⟩⟩
theorem member_any (HE : ExAny) (HAR : ArAny) (W0 w : World) (c : Nat) (s : RS) (own : ByteArray) (hv : Vars W0) (h : Rd W0 c s w) : Calls Tryz.prog 60 #[.pointer (some ⟨c, 0, none⟩), .string own] w (MbC W0 c w (memM own s)) := by
 cases h0 : s.sees 0 kStatic with
 | true =>
   cases h2 : (s.take kStatic).sees 0 kVoid with
   | true => exact member_void_true HE HAR W0 w c s own hv h h0 h2
   | false =>
     cases h3 : (s.take kStatic).typ.name.sees 0 sOpen with
     | true => exact member_method_true HE HAR W0 w c s own hv h h0 h2 h3
     | false => exact member_field_true HE HAR W0 w c s own hv h h0 h2 h3
 | false =>
   cases h1 : (s.take kStatic).ctorB own with
   | true => exact member_ctor HE HAR W0 w c s own hv h h0 h1
   | false =>
     cases h2 : (s.take kStatic).sees 0 kVoid with
     | true => exact member_void_false HE HAR W0 w c s own hv h h0 h1 h2
     | false =>
       cases h3 : (s.take kStatic).typ.name.sees 0 sOpen with
       | true => exact member_method_false HE HAR W0 w c s own hv h h0 h1 h2 h3
       | false => exact member_field_false HE HAR W0 w c s own hv h h0 h1 h2 h3
end
section
open Go.RowKit
theorem grown_more {w w1 w2 : World} {o : Option Nat} {g : Nat} (h : w.grownBy w1 o) (h2 : w1.grownBy w2 (some g)) (hg : w.heap.size ≤ g) : w.grownBy w2 o :=
 ⟨h2.os.trans h.os, h2.tape.trans h.tape, h2.output.trans h.output, Nat.le_trans h.size h2.size, fun k hk hne => (h2.block k (Nat.lt_of_lt_of_le hk h.size) (by simp; omega)).trans (h.block k hk hne)⟩
theorem grownB_below {w w1 w2 : World} {o : Option Nat} (h : w.grownBy w1 o) (hb : Below w1.heap.size w1 w2) : w.grownBy w2 o :=
 ⟨hb.os.trans h.os, hb.tape.trans h.tape, hb.output.trans h.output, Nat.le_trans h.size hb.size, fun k hk hne => (hb.block k (Nat.lt_of_lt_of_le hk h.size)).trans (h.block k hk hne)⟩
theorem below_grown' {w w1 w2 : World} {o : Option Nat} (hb : Below w.heap.size w w1) (h : w1.grownBy w2 o) : w.grownBy w2 o :=
 ⟨h.os.trans hb.os, h.tape.trans hb.tape, h.output.trans hb.output, Nat.le_trans hb.size h.size, fun k hk hne => (h.block k (Nat.lt_of_lt_of_le hk hb.size) hne).trans (hb.block k hk)⟩
section
variable {t : Tg} {T : TypeId} {B B2 : Nat} {r r' : Option Nat} {w w' : World} {v v' : Value} {xs ys : List Nd} {x y : Nd}
theorem OwnT.grow (h : OwnT t T B r w v xs) (hy : NK t B2 none w x y) (hB : B ≤ B2) (hv : ∀ k, v.ownBlock = some k → k < B2) (hr : ∀ g, r = some g → g < B2) (ho : w'.ownsRow B T t.sz v' (xs.length + 1) (xs.flatMap cellsN ++ cellsN y)) (hg : w.grownBy w' v.ownBlock)
   (hat : v'.ownBlock = v.ownBlock ∨ ∃ k, v'.ownBlock = some k ∧ w.heap.size ≤ k) (hm : xs.length + 1 ≤ 2000000) : OwnT t T B r w' v' (xs ++ [y]) := by
 have key : ∀ k j u, some k ≠ v.ownBlock → w.cell? ⟨k, j, none⟩ = some u → w'.cell? ⟨k, j, none⟩ = some u ∧ some k ≠ v'.ownBlock := by
   intro k j u hk hu
   have hlt := World.block_lt_of_cell? w (a := ⟨k, j, none⟩) hu
   simp only at hlt
   refine ⟨(World.cell?_of_block (a := ⟨k, j, none⟩) (hg.block k hlt hk)).trans hu, ?_⟩
   rcases hat with e | ⟨g, e, hg'⟩
   · rw [e]; exact hk
   · rw [e]; intro e'; injection e' with e'; omega
 refine ⟨by simpa using ho, fun z hz => ?_, fun ws hs => KdL_append (h.2.2.1 ws fun k j u hk hne hnr hu => ?_) ⟨hy.2.1 ws fun k j u hk _ hu => ?_, trivial⟩, by simpa using hm⟩
 · rcases List.mem_append.1 hz with hz | hz
   · exact h.2.1 z hz
   · rw [List.mem_singleton.1 hz]; exact hy.1
 · exact hs k j u hk (key k j u hne hu).2 hnr (key k j u hne hu).1
 · have hkv : some k ≠ v.ownBlock := by
     intro e
     have := hv k e.symm
     omega
   exact hs k j u (Nat.le_trans hB hk) (key k j u hkv hu).2 (fun e => by have := hr k e.symm; omega) (key k j u hkv hu).1
theorem OwnT.step {g : Option Nat} (h : OwnT t T B g w v ys) (hg : w.grownBy w' g) (hne : ∀ k, v.ownBlock = some k → g ≠ some k) (hr' : r' = g ∨ ∃ k, r' = some k ∧ w.heap.size ≤ k) : OwnT t T B r' w' v ys := by
 refine ⟨h.1.kept hg (by
   cases hv' : v.ownBlock with
   | none => exact .inl rfl
   | some k => exact .inr (fun e => hne k hv' e.symm)), h.2.1, fun ws hs => h.2.2.1 ws fun k j u hk n1 n2 hu => ?_, h.2.2.2⟩
 have hlt := World.block_lt_of_cell? w (a := ⟨k, j, none⟩) hu
 simp only at hlt
 refine hs k j u hk n1 ?_ ((World.cell?_of_block (a := ⟨k, j, none⟩) (hg.block k hlt n2)).trans hu)
 rcases hr' with e | ⟨q, e, hq⟩
 · rw [e]; exact n2
 · rw [e]; intro e'; injection e' with e'; omega
end
@[go_sem] theorem is_fd_fd (v : Value) (w : World) : (Instr.typeAssert (.iface 61 v) 79 61 true).run Tryz.prog w = .ok (.tuple #[v, .bool true]) w := by kernel_rfl
@[go_sem] theorem is_fd_mt (v : Value) (w : World) : (Instr.typeAssert (.iface 61 v) 79 48 true).run Tryz.prog w = .ok (.tuple #[.agg #[.bool false, .bool false, .string ⟨#[]⟩, .string ⟨#[]⟩, .slice none 0 0, .slice none 0 0], .bool false]) w := by kernel_rfl
@[go_sem] theorem is_mt_fd (v : Value) (w : World) : (Instr.typeAssert (.iface 48 v) 79 61 true).run Tryz.prog w = .ok (.tuple #[.agg #[.bool false, .string ⟨#[]⟩, .string ⟨#[]⟩, .slice none 0 0], .bool false]) w := by kernel_rfl
@[go_sem] theorem is_mt_mt (v : Value) (w : World) : (Instr.typeAssert (.iface 48 v) 79 48 true).run Tryz.prog w = .ok (.tuple #[v, .bool true]) w := by kernel_rfl
def WiF (w : World) (B : Nat) (nm sp : ByteArray) (vf vm : Value) (fs gs : List Nd) (y : Nd) (e : Ending) (w' : World) : Prop := ∃ v', e = .returned (.agg #[.string nm, .string sp, v', vm]) ∧ OwnT .fd 61 B vm.ownBlock w' v' (fs ++ [y]) ∧ OwnT .mt 48 B v'.ownBlock w' vm gs ∧ (∀ k, v'.ownBlock = some k → vm.ownBlock ≠ some k) ∧ w.grownBy w' vf.ownBlock
def WiM (w : World) (B : Nat) (nm sp : ByteArray) (vf vm : Value) (fs gs : List Nd) (y : Nd) (e : Ending) (w' : World) : Prop := ∃ v', e = .returned (.agg #[.string nm, .string sp, vf, v']) ∧ OwnT .fd 61 B v'.ownBlock w' vf fs ∧ OwnT .mt 48 B vf.ownBlock w' v' (gs ++ [y]) ∧ (∀ k, vf.ownBlock = some k → v'.ownBlock ≠ some k) ∧ w.grownBy w' vm.ownBlock
theorem with_F (w : World) (B B2 : Nat) (nm sp : ByteArray) (Af Am : Option Addr) (cf cm : Nat) (fs gs : List Nd) (x : Nd) (st : Bool) (ty nm' : ByteArray) (A1 : Option Addr) (c1 : Nat) (l : List Nd) (hf : OwnT .fd 61 B (Value.slice Am gs.length cm).ownBlock w (Value.slice Af fs.length cf) fs) (hg : OwnT .mt 48 B (Value.slice Af fs.length cf).ownBlock w (Value.slice Am gs.length cm) gs) (hd : ∀ k, (Value.slice Af fs.length cf).ownBlock = some k → (Value.slice Am gs.length cm).ownBlock ≠ some k)
   (hy : NK .fd B2 none w x (.fd st ty nm' (.slice A1 l.length c1) l)) (hB2 : B ≤ B2) (hvf : ∀ k, (Value.slice Af fs.length cf).ownBlock = some k → k < B2) (hvm : ∀ k, (Value.slice Am gs.length cm).ownBlock = some k → k < B2) (hBw : B ≤ w.heap.size) (hB2w : B2 ≤ w.heap.size) (hlen : fs.length ≤ 1000001) :
   Calls Tryz.prog 59 #[.agg #[.string nm, .string sp, .slice Af fs.length cf, .slice Am gs.length cm], .iface 61 (.agg #[.bool st, .string ty, .string nm', .slice A1 l.length c1])] w (WiF w B nm sp (Value.slice Af fs.length cf) (Value.slice Am gs.length cm) fs gs (.fd st ty nm' (.slice A1 l.length c1) l)) := by
 obtain ⟨i0, hi, hz0, hzz1, hzz2⟩ := info_parts Tryz.infoFd
 have HF := Lib.hid hf; have HG := Lib.hid hg; have HD := Lib.hid hd; have HY := Lib.hid hy; have HVF := Lib.hid hvf; have HVM := Lib.hid hvm
 clear hf hg hd hy hvf hvm
 obtain ⟨Wa, ha⟩ : ∃ W, w.alloc (.cells #[.string nm, .string sp, .slice Af fs.length cf, .slice Am gs.length cm] 44) = W := ⟨_, rfl⟩
 have ka : Below w.heap.size w Wa := by rw [← ha]; exact (Below.refl _ _).alloc (Nat.le_refl _) _
 have xa : Bx Wa w.heap.size #[.string nm, .string sp, .slice Af fs.length cf, .slice Am gs.length cm] 44 := by rw [← ha]; exact Bx.new _ _ _
 have sa : Wa.heap.size = w.heap.size + 1 := by rw [← ha]; simp
 obtain ⟨Wb, hb⟩ : ∃ W, Wa.alloc (.cells #[.string ⟨#[]⟩, .string ⟨#[]⟩, .slice none 0 0, .slice none 0 0] 44) = W := ⟨_, rfl⟩
 have kb : Below Wa.heap.size Wa Wb := by rw [← hb]; exact (Below.refl _ _).alloc (Nat.le_refl _) _
 have xb : Bx Wb (w.heap.size + 1) #[.string ⟨#[]⟩, .string ⟨#[]⟩, .slice none 0 0, .slice none 0 0] 44 := by rw [← hb, ← sa]; exact Bx.new _ _ _
 have sb : Wb.heap.size = w.heap.size + 2 := by rw [← hb]; simp [sa]
 obtain ⟨Wd, hd⟩ : ∃ W, Wb.alloc (.cells #[.bool st, .string ty, .string nm', .slice A1 l.length c1] 61) = W := ⟨_, rfl⟩
 have kd : Below Wb.heap.size Wb Wd := by rw [← hd]; exact (Below.refl _ _).alloc (Nat.le_refl _) _
 have xd : Bx Wd (w.heap.size + 2) #[.bool st, .string ty, .string nm', .slice A1 l.length c1] 61 := by rw [← hd, ← sb]; exact Bx.new _ _ _
 have sd : Wd.heap.size = w.heap.size + 3 := by rw [← hd]; simp [sb]
 have FACTS : Bx Wd w.heap.size #[.string nm, .string sp, .slice Af fs.length cf, .slice Am gs.length cm] 44 ∧ Bx Wd (w.heap.size + 1) #[.string ⟨#[]⟩, .string ⟨#[]⟩, .slice none 0 0, .slice none 0 0] 44 ∧ Bx Wd (w.heap.size + 2) #[.bool st, .string ty, .string nm', .slice A1 l.length c1] 61 ∧ Below w.heap.size w Wd ∧ Hid (Wd.heap.size = w.heap.size + 3) := by
   refine ⟨(xa.next kb).next kd, xb.next kd, xd, (ka.trans (kb.mono ka.size)).trans (kd.mono (Nat.le_trans ka.size kb.size)), Lib.hid sd⟩
 clear xa xb xd ka kb kd sa sb sd
 subst ha hb hd
 go_enter Tryz.func59, Tryz.ntmps59
 go_upto_region 2 with (fail)
 refine gen_world (fun W => Bx W w.heap.size #[.string nm, .string sp, .slice Af fs.length cf, .slice Am gs.length cm] 44 ∧ Bx W (w.heap.size + 1) #[.string ⟨#[]⟩, .string ⟨#[]⟩, .slice none 0 0, .slice none 0 0] 44 ∧ Bx W (w.heap.size + 2) #[.bool st, .string ty, .string nm', .slice A1 l.length c1] 61 ∧ Below w.heap.size w W ∧ Hid (W.heap.size = w.heap.size + 3)) FACTS ?_
 clear FACTS
 rintro W ⟨x1, x2, x3, hbw, HSZ⟩
 have HX1 := Lib.hid x1; have HX2 := Lib.hid x2; have HBW := Lib.hid hbw
 obtain ⟨c0, c1', c2', c3'⟩ := x1.all_4
 obtain ⟨y0, y1, y2, y3⟩ := x3.all_4
 have hba : Below W.heap.size W (W.alloc (.cells #[.bool st, .string ty, .string nm', .slice A1 l.length c1] 61)) := (Below.refl _ _).alloc (Nat.le_refl _) _
 have HO2 := Lib.hid (own_next (own_next HF.out.1 hbw) hba)
 have HYR := Lib.hid (OwnT.one (T := 61) ((HY.out.below hbw).mono (Nat.le_refl _)) (Nat.le_trans hB2w hbw.size))
 simp only [cellsN] at HYR
 have HGB := Lib.hid (hbw.trans (hba.mono hbw.size))
 have hwz : B ≤ (W.alloc (.cells #[.bool st, .string ty, .string nm', .slice A1 l.length c1] 61)).heap.size := Nat.le_trans hBw (Nat.le_trans hbw.size hba.size)
 clear x1 x2 x3 hbw hba
 go_wp2_with (at_builtin; refine append_any rfl (.tmp 16) (.tmp 18) 41 rfl B 61 i0 _ 4 64 Tryz.underlying41 hi hz0 hzz1 hzz2 rfl (by decide) _ _ _ rfl HO2.out B2 _ _ _ rfl HYR.out.1 HYR.out.one' ?c3 ?c4 hwz ?_)
 case c3 => unfold maxLen; simp; omega
 case c4 => simp; omega
 intro v2 w4 hown2 hgrow hat
 have hown3 : w4.ownsRow B 61 4 v2 (fs.length + 1) (fs.flatMap cellsN ++ cellsN (.fd st ty nm' (.slice A1 l.length c1) l)) := by simpa using hown2
 obtain ⟨A3, c3, rfl, _⟩ := own_form hown3
 have G4 := below_grown' HGB.out hgrow
 have hne0 : ∀ k, (Value.slice Af fs.length cf).ownBlock = some k → k < w.heap.size := fun k hk => Nat.lt_of_lt_of_le (HVF.out k hk) hB2w
 have hszz : w.heap.size + 3 < (W.alloc (.cells #[.bool st, .string ty, .string nm', .slice A1 l.length c1] 61)).heap.size := by rw [World.size_alloc, HSZ.out]; omega
 have kk : ∀ b cs T, Bx W b cs T → w.heap.size ≤ b → Bx w4 b cs T := fun b cs T hx hbb => (hgrow.block b (hx.next ((Below.refl _ _).alloc (Nat.le_refl _) _)).lt (fun e => by have := hne0 b e.symm; omega)).trans (hx.next ((Below.refl _ _).alloc (Nat.le_refl _) _))
 have x1 := kk _ _ _ HX1.out (Nat.le_refl _)
 have HX24 := Lib.hid (kk _ _ _ HX2.out (by omega))
 obtain ⟨d0, d1, d2, d3⟩ := x1.all_4
 have gd := x1.fro 2
 have HGR := Lib.hid G4
 have HOW := Lib.hid hown3
 have HAT : Hid ((Value.slice A3 (fs.length + 1) c3).ownBlock = (Value.slice Af fs.length cf).ownBlock ∨ ∃ k, (Value.slice A3 (fs.length + 1) c3).ownBlock = some k ∧ w.heap.size + 3 < k) := Lib.hid (hat.imp id fun e => ⟨_, e, by simpa using hszz⟩)
 have HX14 := Lib.hid x1
 have HNE0 := Lib.hid hne0
 have hnew : Hid (∀ b, w.heap.size ≤ b → b ≤ w.heap.size + 3 → (Value.slice A3 (fs.length + 1) c3).ownBlock ≠ some b) := by
   show ∀ b, _
   intro b h1 h2 e
   rcases HAT.out with e2 | ⟨k, e2, hk⟩
   · rw [e] at e2; have := HNE0.out _ e2.symm; omega
   · rw [e] at e2; injection e2 with e2; omega
 clear kk x1 hown2 hown3 hgrow hat G4 HX1 HX2 HO2 HYR hne0 hszz
 have F5 : Bx (w4.setCell ⟨w.heap.size, 2, none⟩ (Value.slice A3 (fs.length + 1) c3)) w.heap.size #[.string nm, .string sp, .slice A3 (fs.length + 1) c3, .slice Am gs.length cm] 44 ∧ Bx (w4.setCell ⟨w.heap.size, 2, none⟩ (Value.slice A3 (fs.length + 1) c3)) (w.heap.size + 1) #[.string ⟨#[]⟩, .string ⟨#[]⟩, .slice none 0 0, .slice none 0 0] 44 ∧ w.grownBy (w4.setCell ⟨w.heap.size, 2, none⟩ (Value.slice A3 (fs.length + 1) c3)) (Value.slice Af fs.length cf).ownBlock ∧ World.ownsRow (w4.setCell ⟨w.heap.size, 2, none⟩ (Value.slice A3 (fs.length + 1) c3)) B 61 4 (Value.slice A3 (fs.length + 1) c3) (fs.length + 1) (fs.flatMap cellsN ++ cellsN (.fd st ty nm' (.slice A1 l.length c1) l)) := by
   have hg5 : w4.grownBy (w4.setCell ⟨w.heap.size, 2, none⟩ (Value.slice A3 (fs.length + 1) c3)) (some w.heap.size) := grown_set_at _ _ _ _
   refine ⟨?_, Bx.grown HX24.out hg5 (by omega), grown_more HGR.out hg5 (Nat.le_refl _), HOW.out.kept hg5 (.inr (hnew.out _ (Nat.le_refl _) (by omega)))⟩
   have := HX14.out.set 2 (Value.slice A3 (fs.length + 1) c3)
   simpa using this
 go_upto_region 4 with (fail)
 refine gen_world (fun W => Bx W w.heap.size #[.string nm, .string sp, .slice A3 (fs.length + 1) c3, .slice Am gs.length cm] 44 ∧ Bx W (w.heap.size + 1) #[.string ⟨#[]⟩, .string ⟨#[]⟩, .slice none 0 0, .slice none 0 0] 44 ∧ w.grownBy W (Value.slice Af fs.length cf).ownBlock ∧ World.ownsRow W B 61 4 (Value.slice A3 (fs.length + 1) c3) (fs.length + 1) (fs.flatMap cellsN ++ cellsN (.fd st ty nm' (.slice A1 l.length c1) l))) F5 ?_
 clear F5 d0 d1 d2 d3 gd HX14 HX24 HGR HOW
 rintro W5 ⟨x15, x25, g5, o5⟩
 have HX15 := Lib.hid x15; have HX25 := Lib.hid x25; have HG5 := Lib.hid g5; have HO5 := Lib.hid o5
 clear x15 x25 g5 o5
 go_upto_region 7 with (fail)
 have F6 : Bx (W5.alloc (.cells #[.bool false, .bool false, .string ⟨#[]⟩, .string ⟨#[]⟩, .slice none 0 0, .slice none 0 0] 48)) w.heap.size #[.string nm, .string sp, .slice A3 (fs.length + 1) c3, .slice Am gs.length cm] 44 ∧ Bx (W5.alloc (.cells #[.bool false, .bool false, .string ⟨#[]⟩, .string ⟨#[]⟩, .slice none 0 0, .slice none 0 0] 48)) (w.heap.size + 1) #[.string ⟨#[]⟩, .string ⟨#[]⟩, .slice none 0 0, .slice none 0 0] 44 ∧ w.grownBy (W5.alloc (.cells #[.bool false, .bool false, .string ⟨#[]⟩, .string ⟨#[]⟩, .slice none 0 0, .slice none 0 0] 48)) (Value.slice Af fs.length cf).ownBlock ∧ World.ownsRow (W5.alloc (.cells #[.bool false, .bool false, .string ⟨#[]⟩, .string ⟨#[]⟩, .slice none 0 0, .slice none 0 0] 48)) B 61 4 (Value.slice A3 (fs.length + 1) c3) (fs.length + 1) (fs.flatMap cellsN ++ cellsN (.fd st ty nm' (.slice A1 l.length c1) l)) := by
   have h6 : Below W5.heap.size W5 (W5.alloc (.cells #[.bool false, .bool false, .string ⟨#[]⟩, .string ⟨#[]⟩, .slice none 0 0, .slice none 0 0] 48)) := (Below.refl _ _).alloc (Nat.le_refl _) _
   exact ⟨HX15.out.next h6, HX25.out.next h6, grownB_below HG5.out h6, own_next HO5.out h6⟩
 refine gen_world (fun W => Bx W w.heap.size #[.string nm, .string sp, .slice A3 (fs.length + 1) c3, .slice Am gs.length cm] 44 ∧ Bx W (w.heap.size + 1) #[.string ⟨#[]⟩, .string ⟨#[]⟩, .slice none 0 0, .slice none 0 0] 44 ∧ w.grownBy W (Value.slice Af fs.length cf).ownBlock ∧ World.ownsRow W B 61 4 (Value.slice A3 (fs.length + 1) c3) (fs.length + 1) (fs.flatMap cellsN ++ cellsN (.fd st ty nm' (.slice A1 l.length c1) l))) F6 ?_
 clear F6 HX15 HX25 HG5 HO5
 rintro W6 ⟨x15, x25, g5, o5⟩
 have HX15 := Lib.hid x15; have HX25 := Lib.hid x25; have HG5 := Lib.hid g5; have HO5 := Lib.hid o5
 clear x15 x25 g5 o5
 obtain ⟨e0, e1, e2, e3⟩ := HX15.out.all_4
 obtain ⟨r0, r1, r2, r3⟩ := HX25.out.all_4
 have g0 := HX25.out.fro 0; have g1 := HX25.out.fro 1; have g2 := HX25.out.fro 2; have g3 := HX25.out.fro 3
 have HGX := Lib.hid (grown_4 W6 (w.heap.size + 1) (.string nm) (.string sp) (.slice A3 (fs.length + 1) c3) (.slice Am gs.length cm))
 go_wp2_with fail
 obtain ⟨z0, z1, z2, z3⟩ := (HX25.out.to_4 (.string nm) (.string sp) (.slice A3 (fs.length + 1) c3) (.slice Am gs.length cm)).all_4
 (try simp only [Exit.inBlock, Exit.then])
 refine bodyPost_ret (v := .agg #[.string nm, .string sp, .slice A3 (fs.length + 1) c3, .slice Am gs.length cm]) (by simp [results, Tryz.results59, go_sem, z0, z1, z2, z3]) rfl ?_
 have G7 := grown_more HG5.out HGX.out (by omega)
 have O7 := HO5.out.kept HGX.out (.inr (hnew.out _ (by omega) (by omega)))
 have hat7 : (Value.slice A3 (fs.length + 1) c3).ownBlock = (Value.slice Af fs.length cf).ownBlock ∨ ∃ k, (Value.slice A3 (fs.length + 1) c3).ownBlock = some k ∧ w.heap.size ≤ k := HAT.out.imp id fun ⟨k, e, hk⟩ => ⟨k, e, by omega⟩
 have RO := OwnT.grow HF.out HY.out hB2 HVF.out HVM.out O7 G7 hat7 (by omega)
 refine ⟨_, rfl, RO, OwnT.step HG.out G7 (fun k hk e => HD.out k e hk) hat7, fun k hk e => ?_, G7⟩
 rcases hat7 with e2 | ⟨q, e2, hq⟩
 · exact HD.out k (e2.symm.trans hk) e
 · rw [hk] at e2; injection e2 with e2; have := HVM.out k e; omega
theorem with_M (w : World) (B B2 : Nat) (nm sp : ByteArray) (Af Am : Option Addr) (cf cm : Nat) (fs gs : List Nd) (x : Nd) (st ct : Bool) (ty nm' : ByteArray) (A1 A2 : Option Addr) (c1 c2 : Nat) (ps : List Pm) (l : List Nd) (hf : OwnT .fd 61 B (Value.slice Am gs.length cm).ownBlock w (Value.slice Af fs.length cf) fs) (hg : OwnT .mt 48 B (Value.slice Af fs.length cf).ownBlock w (Value.slice Am gs.length cm) gs) (hd : ∀ k, (Value.slice Af fs.length cf).ownBlock = some k → (Value.slice Am gs.length cm).ownBlock ≠ some k)
   (hy : NK .mt B2 none w x (.mt st ct ty nm' (.slice A1 ps.length c1) ps (.slice A2 l.length c2) l)) (hB2 : B ≤ B2) (hvf : ∀ k, (Value.slice Af fs.length cf).ownBlock = some k → k < B2) (hvm : ∀ k, (Value.slice Am gs.length cm).ownBlock = some k → k < B2) (hBw : B ≤ w.heap.size) (hB2w : B2 ≤ w.heap.size) (hlen : gs.length ≤ 1000001) :
   Calls Tryz.prog 59 #[.agg #[.string nm, .string sp, .slice Af fs.length cf, .slice Am gs.length cm], .iface 48 (.agg #[.bool st, .bool ct, .string ty, .string nm', .slice A1 ps.length c1, .slice A2 l.length c2])] w (WiM w B nm sp (Value.slice Af fs.length cf) (Value.slice Am gs.length cm) fs gs (.mt st ct ty nm' (.slice A1 ps.length c1) ps (.slice A2 l.length c2) l)) := by
 obtain ⟨i0, hi, hz0, hzz1, hzz2⟩ := info_parts Tryz.infoMt
 have HF := Lib.hid hf; have HG := Lib.hid hg; have HD := Lib.hid hd; have HY := Lib.hid hy; have HVF := Lib.hid hvf; have HVM := Lib.hid hvm
 clear hf hg hd hy hvf hvm
 obtain ⟨Wa, ha⟩ : ∃ W, w.alloc (.cells #[.string nm, .string sp, .slice Af fs.length cf, .slice Am gs.length cm] 44) = W := ⟨_, rfl⟩
 have ka : Below w.heap.size w Wa := by rw [← ha]; exact (Below.refl _ _).alloc (Nat.le_refl _) _
 have xa : Bx Wa w.heap.size #[.string nm, .string sp, .slice Af fs.length cf, .slice Am gs.length cm] 44 := by rw [← ha]; exact Bx.new _ _ _
 have sa : Wa.heap.size = w.heap.size + 1 := by rw [← ha]; simp
 obtain ⟨Wb, hb⟩ : ∃ W, Wa.alloc (.cells #[.string ⟨#[]⟩, .string ⟨#[]⟩, .slice none 0 0, .slice none 0 0] 44) = W := ⟨_, rfl⟩
 have kb : Below Wa.heap.size Wa Wb := by rw [← hb]; exact (Below.refl _ _).alloc (Nat.le_refl _) _
 have xb : Bx Wb (w.heap.size + 1) #[.string ⟨#[]⟩, .string ⟨#[]⟩, .slice none 0 0, .slice none 0 0] 44 := by rw [← hb, ← sa]; exact Bx.new _ _ _
 have sb : Wb.heap.size = w.heap.size + 2 := by rw [← hb]; simp [sa]
 obtain ⟨Wc, hc⟩ : ∃ W, Wb.alloc (.cells #[.bool false, .string ⟨#[]⟩, .string ⟨#[]⟩, .slice none 0 0] 61) = W := ⟨_, rfl⟩
 have kc : Below Wb.heap.size Wb Wc := by rw [← hc]; exact (Below.refl _ _).alloc (Nat.le_refl _) _
 have sc : Wc.heap.size = w.heap.size + 3 := by rw [← hc]; simp [sb]
 obtain ⟨Wd, hd⟩ : ∃ W, Wc.alloc (.cells #[.bool st, .bool ct, .string ty, .string nm', .slice A1 ps.length c1, .slice A2 l.length c2] 48) = W := ⟨_, rfl⟩
 have kd : Below Wc.heap.size Wc Wd := by rw [← hd]; exact (Below.refl _ _).alloc (Nat.le_refl _) _
 have xd : Bx Wd (w.heap.size + 3) #[.bool st, .bool ct, .string ty, .string nm', .slice A1 ps.length c1, .slice A2 l.length c2] 48 := by rw [← hd, ← sc]; exact Bx.new _ _ _
 have sd : Wd.heap.size = w.heap.size + 4 := by rw [← hd]; simp [sc]
 have FACTS : Bx Wd w.heap.size #[.string nm, .string sp, .slice Af fs.length cf, .slice Am gs.length cm] 44 ∧ Bx Wd (w.heap.size + 1) #[.string ⟨#[]⟩, .string ⟨#[]⟩, .slice none 0 0, .slice none 0 0] 44 ∧ Bx Wd (w.heap.size + 3) #[.bool st, .bool ct, .string ty, .string nm', .slice A1 ps.length c1, .slice A2 l.length c2] 48 ∧ Below w.heap.size w Wd ∧ Hid (Wd.heap.size = w.heap.size + 4) := by
   refine ⟨((xa.next kb).next kc).next kd, (xb.next kc).next kd, xd, ((ka.trans (kb.mono ka.size)).trans (kc.mono (Nat.le_trans ka.size kb.size))).trans (kd.mono (Nat.le_trans (Nat.le_trans ka.size kb.size) kc.size)), Lib.hid sd⟩
 clear xa xb xd ka kb kd sa sb sd kc sc
 subst ha hb hc hd
 go_enter Tryz.func59, Tryz.ntmps59
 go_upto_region 5 with (fail)
 refine gen_world (fun W => Bx W w.heap.size #[.string nm, .string sp, .slice Af fs.length cf, .slice Am gs.length cm] 44 ∧ Bx W (w.heap.size + 1) #[.string ⟨#[]⟩, .string ⟨#[]⟩, .slice none 0 0, .slice none 0 0] 44 ∧ Bx W (w.heap.size + 3) #[.bool st, .bool ct, .string ty, .string nm', .slice A1 ps.length c1, .slice A2 l.length c2] 48 ∧ Below w.heap.size w W ∧ Hid (W.heap.size = w.heap.size + 4)) FACTS ?_
 clear FACTS
 rintro W ⟨x1, x2, x3, hbw, HSZ⟩
 have HX1 := Lib.hid x1; have HX2 := Lib.hid x2; have HBW := Lib.hid hbw
 obtain ⟨c0, c1', c2', c3'⟩ := x1.all_4
 obtain ⟨y0, y1, y2, y3, y4, y5⟩ := x3.all_6
 have hba : Below W.heap.size W (W.alloc (.cells #[.bool st, .bool ct, .string ty, .string nm', .slice A1 ps.length c1, .slice A2 l.length c2] 48)) := (Below.refl _ _).alloc (Nat.le_refl _) _
 have HO2 := Lib.hid (own_next (own_next HG.out.1 hbw) hba)
 have HYR := Lib.hid (OwnT.one (T := 48) ((HY.out.below hbw).mono (Nat.le_refl _)) (Nat.le_trans hB2w hbw.size))
 simp only [cellsN] at HYR
 have HGB := Lib.hid (hbw.trans (hba.mono hbw.size))
 have hwz : B ≤ (W.alloc (.cells #[.bool st, .bool ct, .string ty, .string nm', .slice A1 ps.length c1, .slice A2 l.length c2] 48)).heap.size := Nat.le_trans hBw (Nat.le_trans hbw.size hba.size)
 clear x1 x2 x3 hbw hba
 go_wp2_with (at_builtin; refine append_any rfl (.tmp 28) (.tmp 30) 42 rfl B 48 i0 _ 6 88 Tryz.underlying42 hi hz0 hzz1 hzz2 rfl (by decide) _ _ _ rfl HO2.out B2 _ _ _ rfl HYR.out.1 HYR.out.one' ?c3 ?c4 hwz ?_)
 case c3 => unfold maxLen; simp; omega
 case c4 => simp; omega
 intro v2 w4 hown2 hgrow hat
 have hown3 : w4.ownsRow B 48 6 v2 (gs.length + 1) (gs.flatMap cellsN ++ cellsN (.mt st ct ty nm' (.slice A1 ps.length c1) ps (.slice A2 l.length c2) l)) := by simpa using hown2
 obtain ⟨A3, c3, rfl, _⟩ := own_form hown3
 have G4 := below_grown' HGB.out hgrow
 have hne0 : ∀ k, (Value.slice Am gs.length cm).ownBlock = some k → k < w.heap.size := fun k hk => Nat.lt_of_lt_of_le (HVM.out k hk) hB2w
 have hszz : w.heap.size + 4 < (W.alloc (.cells #[.bool st, .bool ct, .string ty, .string nm', .slice A1 ps.length c1, .slice A2 l.length c2] 48)).heap.size := by rw [World.size_alloc, HSZ.out]; omega
 have kk : ∀ b cs T, Bx W b cs T → w.heap.size ≤ b → Bx w4 b cs T := fun b cs T hx hbb => (hgrow.block b (hx.next ((Below.refl _ _).alloc (Nat.le_refl _) _)).lt (fun e => by have := hne0 b e.symm; omega)).trans (hx.next ((Below.refl _ _).alloc (Nat.le_refl _) _))
 have x1 := kk _ _ _ HX1.out (Nat.le_refl _)
 have HX24 := Lib.hid (kk _ _ _ HX2.out (by omega))
 obtain ⟨d0, d1, d2, d3⟩ := x1.all_4
 have gd := x1.fro 3
 have HGR := Lib.hid G4
 have HOW := Lib.hid hown3
 have HAT : Hid ((Value.slice A3 (gs.length + 1) c3).ownBlock = (Value.slice Am gs.length cm).ownBlock ∨ ∃ k, (Value.slice A3 (gs.length + 1) c3).ownBlock = some k ∧ w.heap.size + 4 < k) := Lib.hid (hat.imp id fun e => ⟨_, e, by simpa using hszz⟩)
 have HX14 := Lib.hid x1
 have HNE0 := Lib.hid hne0
 have hnew : Hid (∀ b, w.heap.size ≤ b → b ≤ w.heap.size + 4 → (Value.slice A3 (gs.length + 1) c3).ownBlock ≠ some b) := by
   show ∀ b, _
   intro b h1 h2 e
   rcases HAT.out with e2 | ⟨k, e2, hk⟩
   · rw [e] at e2; have := HNE0.out _ e2.symm; omega
   · rw [e] at e2; injection e2 with e2; omega
 clear kk x1 hown2 hown3 hgrow hat G4 HX1 HX2 HO2 HYR hne0 hszz
 have F5 : Bx (w4.setCell ⟨w.heap.size, 3, none⟩ (Value.slice A3 (gs.length + 1) c3)) w.heap.size #[.string nm, .string sp, .slice Af fs.length cf, .slice A3 (gs.length + 1) c3] 44 ∧ Bx (w4.setCell ⟨w.heap.size, 3, none⟩ (Value.slice A3 (gs.length + 1) c3)) (w.heap.size + 1) #[.string ⟨#[]⟩, .string ⟨#[]⟩, .slice none 0 0, .slice none 0 0] 44 ∧ w.grownBy (w4.setCell ⟨w.heap.size, 3, none⟩ (Value.slice A3 (gs.length + 1) c3)) (Value.slice Am gs.length cm).ownBlock ∧ World.ownsRow (w4.setCell ⟨w.heap.size, 3, none⟩ (Value.slice A3 (gs.length + 1) c3)) B 48 6 (Value.slice A3 (gs.length + 1) c3) (gs.length + 1) (gs.flatMap cellsN ++ cellsN (.mt st ct ty nm' (.slice A1 ps.length c1) ps (.slice A2 l.length c2) l)) := by
   have hg5 : w4.grownBy (w4.setCell ⟨w.heap.size, 3, none⟩ (Value.slice A3 (gs.length + 1) c3)) (some w.heap.size) := grown_set_at _ _ _ _
   refine ⟨?_, Bx.grown HX24.out hg5 (by omega), grown_more HGR.out hg5 (Nat.le_refl _), HOW.out.kept hg5 (.inr (hnew.out _ (Nat.le_refl _) (by omega)))⟩
   have := HX14.out.set 3 (Value.slice A3 (gs.length + 1) c3)
   simpa using this
 go_upto_region 7 with (fail)
 refine gen_world (fun W => Bx W w.heap.size #[.string nm, .string sp, .slice Af fs.length cf, .slice A3 (gs.length + 1) c3] 44 ∧ Bx W (w.heap.size + 1) #[.string ⟨#[]⟩, .string ⟨#[]⟩, .slice none 0 0, .slice none 0 0] 44 ∧ w.grownBy W (Value.slice Am gs.length cm).ownBlock ∧ World.ownsRow W B 48 6 (Value.slice A3 (gs.length + 1) c3) (gs.length + 1) (gs.flatMap cellsN ++ cellsN (.mt st ct ty nm' (.slice A1 ps.length c1) ps (.slice A2 l.length c2) l))) F5 ?_
 clear F5 d0 d1 d2 d3 gd HX14 HX24 HGR HOW
 rintro W5 ⟨x15, x25, g5, o5⟩
 have HX15 := Lib.hid x15; have HX25 := Lib.hid x25; have HG5 := Lib.hid g5; have HO5 := Lib.hid o5
 clear x15 x25 g5 o5
 obtain ⟨e0, e1, e2, e3⟩ := HX15.out.all_4
 obtain ⟨r0, r1, r2, r3⟩ := HX25.out.all_4
 have g0 := HX25.out.fro 0; have g1 := HX25.out.fro 1; have g2 := HX25.out.fro 2; have g3 := HX25.out.fro 3
 have HGX := Lib.hid (grown_4 W5 (w.heap.size + 1) (.string nm) (.string sp) (.slice Af fs.length cf) (.slice A3 (gs.length + 1) c3))
 go_wp2_with fail
 obtain ⟨z0, z1, z2, z3⟩ := (HX25.out.to_4 (.string nm) (.string sp) (.slice Af fs.length cf) (.slice A3 (gs.length + 1) c3)).all_4
 (try simp only [Exit.inBlock, Exit.then])
 refine bodyPost_ret (v := .agg #[.string nm, .string sp, .slice Af fs.length cf, .slice A3 (gs.length + 1) c3]) (by simp [results, Tryz.results59, go_sem, z0, z1, z2, z3]) rfl ?_
 have G7 := grown_more HG5.out HGX.out (by omega)
 have O7 := HO5.out.kept HGX.out (.inr (hnew.out _ (by omega) (by omega)))
 have hat7 : (Value.slice A3 (gs.length + 1) c3).ownBlock = (Value.slice Am gs.length cm).ownBlock ∨ ∃ k, (Value.slice A3 (gs.length + 1) c3).ownBlock = some k ∧ w.heap.size ≤ k := HAT.out.imp id fun ⟨k, e, hk⟩ => ⟨k, e, by omega⟩
 have RO := OwnT.grow HG.out HY.out hB2 HVM.out HVF.out O7 G7 hat7 (by omega)
 refine ⟨_, rfl, OwnT.step HF.out G7 (fun k hk e => HD.out k hk e) hat7, RO, fun k hk e => ?_, G7⟩
 rcases hat7 with e2 | ⟨q, e2, hq⟩
 · exact HD.out k hk (e2.symm.trans e)
 · rw [e] at e2; injection e2 with e2; have := HVF.out k hk; omega
end
section
open Go.RowKit
theorem MbC.fd {W0 w w' : World} {c : Nat} {r : Nd × RS} {e : Ending} (h : MbC W0 c w r e w') (hF : isF r.1 = true) : ∃ (st : Bool) (ty nm : ByteArray) (A1 : Option Addr) (c1 : Nat) (l : List Nd), e = .returned (.iface 61 (.agg #[.bool st, .string ty, .string nm, .slice A1 l.length c1])) ∧ NK .fd w.heap.size none w' r.1 (.fd st ty nm (.slice A1 l.length c1) l) ∧ Mv W0 c r.2 w w' := by
 obtain ⟨y, hm, ⟨rfl, ⟨st, ty, nm, A1, c1, l, rfl⟩, hk⟩ | ⟨rfl, ⟨st, ct, ty, nm, A1, A2, c1, c2, ps, l, rfl⟩, hk⟩⟩ := h
 · exact ⟨st, ty, nm, A1, c1, l, rfl, hk, hm⟩
 · exfalso
   have hb := hk.2.2
   revert hF hb
   cases r.1 <;> simp [isF, bareN]
theorem MbC.mt {W0 w w' : World} {c : Nat} {r : Nd × RS} {e : Ending} (h : MbC W0 c w r e w') (hF : isF r.1 = false) : ∃ (st ct : Bool) (ty nm : ByteArray) (A1 A2 : Option Addr) (c1 c2 : Nat) (ps : List Pm) (l : List Nd), e = .returned (.iface 48 (.agg #[.bool st, .bool ct, .string ty, .string nm, .slice A1 ps.length c1, .slice A2 l.length c2])) ∧ NK .mt w.heap.size none w' r.1 (.mt st ct ty nm (.slice A1 ps.length c1) ps (.slice A2 l.length c2) l) ∧ Mv W0 c r.2 w w' := by
 obtain ⟨y, hm, ⟨rfl, ⟨st, ty, nm, A1, c1, l, rfl⟩, hk⟩ | ⟨rfl, ⟨st, ct, ty, nm, A1, A2, c1, c2, ps, l, rfl⟩, hk⟩⟩ := h
 · exfalso
   have hb := hk.2.2
   revert hF hb
   cases r.1 <;> simp [isF, bareN]
 · exact ⟨st, ct, ty, nm, A1, A2, c1, c2, ps, l, rfl, hk, hm⟩
structure ClsAt (W0 w : World) (c bc : Nat) (s : RS) (nm sp : ByteArray) (f g : List Nd) (wr : World) (Af Am : Option Addr) (cf cm : Nat) (fs gs : List Nd) : Prop where
 mv : Mv W0 c s w wr
 bx : Bx wr bc #[.string nm, .string sp, .slice Af fs.length cf, .slice Am gs.length cm] 44
 rf : OwnT .fd 61 (bc + 1) (Value.slice Am gs.length cm).ownBlock wr (.slice Af fs.length cf) fs
 rm : OwnT .mt 48 (bc + 1) (Value.slice Af fs.length cf).ownBlock wr (.slice Am gs.length cm) gs
 ne : ∀ k, (Value.slice Af fs.length cf).ownBlock = some k → (Value.slice Am gs.length cm).ownBlock ≠ some k
 bf : bareL fs = bareL f
 bg : bareL gs = bareL g
 hb : w.heap.size < bc
 hc : c < w.heap.size
 rb : Bx wr w.heap.size #[.string ⟨#[]⟩, .string ⟨#[]⟩, .slice none 0 0, .slice none 0 0] 44
 hle : W0.heap.size ≤ w.heap.size
section
variable {W0 w wr w' : World} {c bc : Nat} {s s2 : RS} {nm sp : ByteArray} {f g : List Nd} {Af Am : Option Addr} {cf cm : Nat} {fs gs : List Nd}
theorem ClsAt.below (h : ClsAt W0 w c bc s nm sp f g wr Af Am cf cm fs gs) (hb : Below wr.heap.size wr w') : ClsAt W0 w c bc s nm sp f g w' Af Am cf cm fs gs :=
 ⟨h.mv.trans (Mv.below hb h.mv.2), h.bx.next hb, h.rf.below hb, h.rm.below hb, h.ne, h.bf, h.bg, h.hb, h.hc, h.rb.next hb, h.hle⟩
theorem ClsAt.move (h : ClsAt W0 w c bc s nm sp f g wr Af Am cf cm fs gs) (hm : Mv W0 c s2 wr w') : ClsAt W0 w c bc s2 nm sp f g w' Af Am cf cm fs gs :=
 have h1 := h.hb
 have h2 := h.hc
 ⟨h.mv.trans hm, Bx.grown h.bx hm.1 (by omega), h.rf.grown hm.1 (by omega), h.rm.grown hm.1 (by omega), h.ne, h.bf, h.bg, h.hb, h.hc, Bx.grown h.rb hm.1 (by omega), h.hle⟩
theorem ClsAt.boxF (h : ClsAt W0 w c bc s nm sp f g wr Af Am cf cm fs gs) (hg : wr.grownBy w' (Value.slice Af fs.length cf).ownBlock) : Bx w' bc #[.string nm, .string sp, .slice Af fs.length cf, .slice Am gs.length cm] 44 := by
 refine (hg.block bc h.bx.lt (fun e => ?_)).trans h.bx
 have := (h.rf.lt bc e.symm).1
 omega
theorem ClsAt.boxM (h : ClsAt W0 w c bc s nm sp f g wr Af Am cf cm fs gs) (hg : wr.grownBy w' (Value.slice Am gs.length cm).ownBlock) : Bx w' bc #[.string nm, .string sp, .slice Af fs.length cf, .slice Am gs.length cm] 44 := by
 refine (hg.block bc h.bx.lt (fun e => ?_)).trans h.bx
 have := (h.rm.lt bc e.symm).1
 omega
theorem ClsAt.putF {x y : Nd} {A3 : Option Addr} {c3 : Nat} (h : ClsAt W0 w c bc s nm sp f g wr Af Am cf cm fs gs) (hy : bareN y = bareN x) (ro : OwnT .fd 61 (bc + 1) (Value.slice Am gs.length cm).ownBlock w' (.slice A3 (fs ++ [y]).length c3) (fs ++ [y])) (rm : OwnT .mt 48 (bc + 1) (Value.slice A3 (fs ++ [y]).length c3).ownBlock w' (.slice Am gs.length cm) gs)
   (ne : ∀ k, (Value.slice A3 (fs ++ [y]).length c3).ownBlock = some k → (Value.slice Am gs.length cm).ownBlock ≠ some k) (hg : wr.grownBy w' (Value.slice Af fs.length cf).ownBlock) :
   ClsAt W0 w c bc s nm sp (f ++ [x]) g ((((w'.setCell ⟨bc, 0, none⟩ (.string nm)).setCell ⟨bc, 1, none⟩ (.string sp)).setCell ⟨bc, 2, none⟩ (.slice A3 (fs ++ [y]).length c3)).setCell ⟨bc, 3, none⟩ (.slice Am gs.length cm)) A3 Am c3 cm (fs ++ [y]) gs := by
 have h1 := h.hb
 have h2 := h.hc
 have h3 := h.hle
 have hx := h.boxF hg
 have hgg := grown_4 w' bc (.string nm) (.string sp) (.slice A3 (fs ++ [y]).length c3) (.slice Am gs.length cm)
 have hmv := Mv.row h.mv hg (fun k hk => by have := (h.rf.lt k hk).1; omega) (fun k hk => by have := (h.rf.lt k hk).1; omega) h.hc
 have hrb : Bx w' w.heap.size #[.string ⟨#[]⟩, .string ⟨#[]⟩, .slice none 0 0, .slice none 0 0] 44 := (hg.block _ h.rb.lt (fun e => by have := (h.rf.lt _ e.symm).1; omega)).trans h.rb
 exact ⟨Mv.over (Below.refl _ _) hmv hgg (by omega) h.hc, hx.to_4 _ _ _ _, ro.grown hgg (by omega), rm.grown hgg (by omega), ne, by rw [bareL_append, bareL_append, h.bf]; simp only [bareL]; rw [hy], h.bg, h.hb, h.hc, Bx.grown hrb hgg (by omega), h.hle⟩
theorem ClsAt.putM {x y : Nd} {A3 : Option Addr} {c3 : Nat} (h : ClsAt W0 w c bc s nm sp f g wr Af Am cf cm fs gs) (hy : bareN y = bareN x) (rf : OwnT .fd 61 (bc + 1) (Value.slice A3 (gs ++ [y]).length c3).ownBlock w' (.slice Af fs.length cf) fs) (ro : OwnT .mt 48 (bc + 1) (Value.slice Af fs.length cf).ownBlock w' (.slice A3 (gs ++ [y]).length c3) (gs ++ [y]))
   (ne : ∀ k, (Value.slice Af fs.length cf).ownBlock = some k → (Value.slice A3 (gs ++ [y]).length c3).ownBlock ≠ some k) (hg : wr.grownBy w' (Value.slice Am gs.length cm).ownBlock) :
   ClsAt W0 w c bc s nm sp f (g ++ [x]) ((((w'.setCell ⟨bc, 0, none⟩ (.string nm)).setCell ⟨bc, 1, none⟩ (.string sp)).setCell ⟨bc, 2, none⟩ (.slice Af fs.length cf)).setCell ⟨bc, 3, none⟩ (.slice A3 (gs ++ [y]).length c3)) Af A3 cf c3 fs (gs ++ [y]) := by
 have h1 := h.hb
 have h2 := h.hc
 have h3 := h.hle
 have hx := h.boxM hg
 have hgg := grown_4 w' bc (.string nm) (.string sp) (.slice Af fs.length cf) (.slice A3 (gs ++ [y]).length c3)
 have hmv := Mv.row h.mv hg (fun k hk => by have := (h.rm.lt k hk).1; omega) (fun k hk => by have := (h.rm.lt k hk).1; omega) h.hc
 have hrb : Bx w' w.heap.size #[.string ⟨#[]⟩, .string ⟨#[]⟩, .slice none 0 0, .slice none 0 0] 44 := (hg.block _ h.rb.lt (fun e => by have := (h.rm.lt _ e.symm).1; omega)).trans h.rb
 exact ⟨Mv.over (Below.refl _ _) hmv hgg (by omega) h.hc, hx.to_4 _ _ _ _, rf.grown hgg (by omega), ro.grown hgg (by omega), ne, h.bf, by rw [bareL_append, bareL_append, h.bg]; simp only [bareL]; rw [hy], h.hb, h.hc, Bx.grown hrb hgg (by omega), h.hle⟩
end
def CsC (W0 : World) (c : Nat) (w : World) (r : Nd × RS) (e : Ending) (w' : World) : Prop := ∃ (nm sp : ByteArray) (Af Am : Option Addr) (cf cm : Nat) (fs gs : List Nd), e = .returned (.agg #[.string nm, .string sp, .slice Af fs.length cf, .slice Am gs.length cm]) ∧ NK .cl w.heap.size none w' r.1 (.cl nm sp (.slice Af fs.length cf) (.slice Am gs.length cm) fs gs) ∧ Mv W0 c r.2 w w'
theorem class_0 (HE : ExAny) (HAR : ArAny) (W0 w : World) (c : Nat) (s : RS) (hv : Vars W0) (h : Rd W0 c s w) (hel : (kl1 s).sees 0 kExtends = false) : Calls Tryz.prog 35 #[.pointer (some ⟨c, 0, none⟩)] w (CsC W0 c w (clsC s)) := by
 obtain ⟨R, hR⟩ : ∃ R, clB s = R := ⟨_, rfl⟩
 have hlc : loopC ((kl3 s).len + 1) (s.need kClass).classV [] [] (kl3 s) = R := hR
 have hnm := class_len (s.need kClass)
 obtain ⟨nm, hnme⟩ : ∃ nm, (s.need kClass).classV = nm := ⟨_, rfl⟩
 obtain ⟨s3, hs3⟩ : ∃ s3, kl3 s = s3 := ⟨_, rfl⟩
 obtain ⟨s1, hs1⟩ : ∃ s1, kl1 s = s1 := ⟨_, rfl⟩
 have e1 : (s.need kClass).class = s1 := hs1
 have e3 : s1.need sBra = s3 := by rw [← hs3, ← hs1]; unfold kl3 kl2; rw [if_neg (by simp [hel])]
 have hsup : clSup s = ⟨#[]⟩ := by unfold clSup; rw [if_neg (by simp [hel])]; rfl
 have HRE : Hid (clsC s = (.cl nm ⟨#[]⟩ (.slice none 0 0) (.slice none 0 0) R.1.1 R.1.2, R.2.need sKet)) := Lib.hid (by simp only [clsC, hR, hnme, hsup])
 obtain ⟨RR, hRR⟩ : ∃ RR, clsC s = RR := ⟨_, rfl⟩
 rw [hRR] at HRE ⊢
 have hlt := h.lt
 have hle0 := h.le
 obtain ⟨W1, hW1⟩ : ∃ W1, w.alloc (.cells #[.string ⟨#[]⟩, .string ⟨#[]⟩, .slice none 0 0, .slice none 0 0] 44) = W1 := ⟨_, rfl⟩
 have hb : Below w.heap.size w W1 := by rw [← hW1]; exact (Below.refl _ w).alloc (Nat.le_refl _) _
 have hx : Bx W1 w.heap.size #[.string ⟨#[]⟩, .string ⟨#[]⟩, .slice none 0 0, .slice none 0 0] 44 := by rw [← hW1]; exact Bx.new _ _ _
 have hz : W1.heap.size = w.heap.size + 1 := by rw [← hW1]; simp
 have HM := Lib.hid (Mv.below hb h)
 have HB := Lib.hid hx
 clear hb hx
 rw [hs1] at hel
 rw [hnme, hs3] at hlc
 rw [hnme] at hnm
 have HN0 : Hid (∀ w', Rd W0 c (s) w' → Calls Tryz.prog 55 #[.pointer (some ⟨c, 0, none⟩), .string kClass] w' fun e w'' => e = .returned (.tuple #[]) ∧ Mv W0 c (RS.need (s) kClass) w' w'') := by
   show ∀ w', _
   intro w' h'; exact need_any W0 w' c _ kClass h'
 have HC : Hid (∀ w', Rd W0 c (s.need kClass) w' → Calls Tryz.prog 56 #[.pointer (some ⟨c, 0, none⟩)] w' fun e w'' => e = .returned (.string (s.need kClass).classV) ∧ Mv W0 c ((s.need kClass).class) w' w'') := by
   show ∀ w', _
   intro w' h'; exact classR_any W0 w' c _ h'
 rw [hnme, e1] at HC
 have HT : Hid (∀ w', Rd W0 c (s1) w' → Calls Tryz.prog 57 #[.pointer (some ⟨c, 0, none⟩), .string kExtends] w' fun e w'' => e = .returned (.bool false) ∧ w' = w'') := by
   show ∀ w', _
   intro w' h'; exact take_false W0 w' c s1 kExtends h' hel
 have HN1 : Hid (∀ w', Rd W0 c (s1) w' → Calls Tryz.prog 55 #[.pointer (some ⟨c, 0, none⟩), .string sBra] w' fun e w'' => e = .returned (.tuple #[]) ∧ Mv W0 c (RS.need (s1) sBra) w' w'') := by
   show ∀ w', _
   intro w' h'; exact need_any W0 w' c _ sBra h'
 rw [e3] at HN1
 have HN2 : Hid (∀ w', Rd W0 c (R.2) w' → Calls Tryz.prog 55 #[.pointer (some ⟨c, 0, none⟩), .string sKet] w' fun e w'' => e = .returned (.tuple #[]) ∧ Mv W0 c (RS.need (R.2) sKet) w' w'') := by
   show ∀ w', _
   intro w' h'; exact need_any W0 w' c _ sKet h'
 have HMB : Hid (∀ s' w', Rd W0 c s' w' → Calls Tryz.prog 60 #[.pointer (some ⟨c, 0, none⟩), .string nm] w' (MbC W0 c w' (memM nm s'))) := by
   show ∀ s' w', _
   intro s' w' h'; exact member_any HE HAR W0 w' c s' nm hv h'
 have HLC := Lib.hid hlc
 clear hRR hR hlc hnme hs3 hs1 e1 e3 hsup h hv HE HAR hel
 go_enter Tryz.func35, Tryz.ntmps35
 go_wp2_with fail
 refine (HN0.out _ HM.out.2).mono ?_
 clear HN0 hW1
 rintro e w2 ⟨rfl, hm⟩
 replace HM := Lib.hid (HM.out.trans hm)
 replace HB := Lib.hid (Bx.grown HB.out hm.1 (by omega))
 have hs2 := hm.1.size
 clear hm
 go_wp2_with fail
 refine (HC.out _ HM.out.2).mono ?_
 clear HC
 rintro e w3 ⟨rfl, hm⟩
 replace HM := Lib.hid (HM.out.trans hm)
 replace HB := Lib.hid (Bx.grown HB.out hm.1 (by omega))
 have hs3 := hm.1.size
 clear hm
 obtain ⟨W4, hW4⟩ : ∃ W, w3.alloc (.cells #[.string nm, .string ⟨#[]⟩, .slice none 0 0, .slice none 0 0] 44) = W := ⟨_, rfl⟩
 have hb : Below w3.heap.size w3 W4 := by rw [← hW4]; exact (Below.refl _ _).alloc (Nat.le_refl _) _
 have HL : Hid (Bx W4 w3.heap.size #[.string nm, .string ⟨#[]⟩, .slice none 0 0, .slice none 0 0] 44) := Lib.hid (by rw [← hW4]; exact Bx.new _ _ _)
 have hz4 : W4.heap.size = w3.heap.size + 1 := by rw [← hW4]; simp
 replace HM := Lib.hid (HM.out.trans (Mv.below hb HM.out.2))
 replace HB := Lib.hid (HB.out.next hb)
 clear hb
 subst hW4
 go_wp2_with fail
 refine (HT.out _ HM.out.2).mono ?_
 clear HT
 rintro e w5 ⟨rfl, rfl⟩
 go_wp2_with fail
 refine (HN1.out _ HM.out.2).mono ?_
 clear HN1
 rintro e w8 ⟨rfl, hm⟩
 replace HM := Lib.hid (HM.out.trans hm)
 replace HB := Lib.hid (Bx.grown HB.out hm.1 (by omega))
 replace HL := Lib.hid (Bx.grown HL.out hm.1 (by omega))
 clear hm
 have hsp : (⟨#[]⟩ : ByteArray).size ≤ maxLen := Nat.zero_le _
 have HCA : Hid (ClsAt W0 w c w3.heap.size s3 nm ⟨#[]⟩ [] [] w8 none none 0 0 [] []) := Lib.hid ⟨HM.out, HL.out, OwnT.nil, OwnT.nil, by simp [Value.ownBlock], rfl, rfl, by omega, hlt, HB.out, hle0⟩
 have hfew := HM.out.2.few
 have hbc : w.heap.size < w3.heap.size := by omega
 clear HM HL HB
 obtain ⟨sl, hsl⟩ : ∃ sl, s3.len = sl := ⟨_, rfl⟩
 rw [hsl] at HLC hfew
 go_wp2_with fail
 go_loopw [17] (fun v17 wr => ∃ (m : Nat) (f g : List Nd) (s' : RS) (Af Am : Option Addr) (cf cm : Nat) (fs gs : List Nd), loopC m nm f g s' = R ∧ s'.len < m ∧ ClsAt W0 w c w3.heap.size s' nm ⟨#[]⟩ f g wr Af Am cf cm fs gs ∧ fs.length + gs.length + s'.len ≤ 1000001) (fun v17 wr => lenAt wr c)
 case atStart => exact ⟨sl + 1, [], [], s3, none, none, 0, 0, [], [], HLC.out, by omega, HCA.out, by simp; omega⟩
 case round =>
   obtain ⟨m, f, g, s', Af, Am, cf, cm, fs, gs, hrun, hen, hca, hbd⟩ := hrel
   obtain ⟨m, rfl⟩ : ∃ m', m = m' + 1 := ⟨m - 1, by omega⟩
   have HU := Lib.hid (until_any W0 wr c s' sKet hca.mv.2)
   have hla := lenAt_of hca.mv.2
   have HCB := Lib.hid hca
   cases hun : s'.until sKet with
   | false =>
     have hR : loopC (m + 1) nm f g s' = ((f, g), s') := by simp only [loopC, hun]; simp
     rw [hR] at hrun
     rw [hun] at HU
     subst hrun
     clear hR hun hca hla hen hbd
     go_wp2_with fail
     refine HU.out.mono ?_
     clear HU
     rintro e w9 ⟨rfl, rfl⟩
     go_wp2_with fail
     refine (HN2.out _ HCB.out.mv.2).mono ?_
     clear HN2
     rintro e w10 ⟨rfl, hm⟩
     have HC1 := Lib.hid (HCB.out.move hm)
     clear hm
     obtain ⟨y0, y1, y2, y3⟩ := HC1.out.bx.all_4
     obtain ⟨r0, r1, r2, r3⟩ := HC1.out.rb.all_4
     have g0 := HC1.out.rb.fro 0; have g1 := HC1.out.rb.fro 1; have g2 := HC1.out.rb.fro 2; have g3 := HC1.out.rb.fro 3
     have HG := Lib.hid (grown_4 w10 w.heap.size (.string nm) (.string ⟨#[]⟩) (.slice Af fs.length cf) (.slice Am gs.length cm))
     go_wp2_with fail
     obtain ⟨z0, z1, z2, z3⟩ := (HC1.out.rb.to_4 (.string nm) (.string ⟨#[]⟩) (.slice Af fs.length cf) (.slice Am gs.length cm)).all_4
     (try simp only [Exit.inBlock, Exit.then])
     refine bodyPost_ret (v := .agg #[.string nm, .string ⟨#[]⟩, .slice Af fs.length cf, .slice Am gs.length cm]) (by simp [results, Tryz.results35, go_sem, z0, z1, z2, z3]) rfl ?_
     rw [HRE.out]
     exact ⟨nm, ⟨#[]⟩, Af, Am, cf, cm, fs, gs, rfl, ((cl_node (B := w3.heap.size + 1) ⟨hnm, hsp⟩ HC1.out.rf.fk HC1.out.rm.fk HC1.out.bf HC1.out.bg).grown HG.out (.inl (by omega))).mono (by omega), Mv.over (Below.refl _ _) HC1.out.mv HG.out (Nat.le_refl _) hlt⟩
   | true =>
     rw [hun] at HU
     obtain ⟨q, hq⟩ : ∃ q, memM nm s' = q := ⟨_, rfl⟩
     have h1 : 1 ≤ s'.len := by
       cases hw : s'.ws with
       | nil => simp [RS.until, hw] at hun
       | cons x l => simp [RS.len, hw]
     have h3 : q.2.len ≤ s'.len - 1 := by rw [← hq]; exact len_memM nm s'
     have HMQ := Lib.hid (HMB.out s' wr.drew hca.mv.2.drew)
     rw [hq] at HMQ
     have HCD := Lib.hid (hca.below (Below.refl _ wr).drew)
     obtain ⟨y0, y1, y2, y3⟩ := hca.bx.all_4
     cases hF : isF q.1 with
     | true =>
       have hR : loopC (m + 1) nm f g s' = loopC m nm (f ++ [q.1]) g q.2 := by simp only [loopC, hun, hq, hF]; simp
       rw [hR] at hrun
       have HRUN := Lib.hid hrun
       have hsw : wr.drew.heap.size = wr.heap.size := rfl
       have hbl := hca.bx.lt
       clear hR hrun hq hca hun
       go_wp2_with fail
       refine HU.out.mono ?_
       clear HU
       rintro e w9 ⟨rfl, rfl⟩
       go_wp2_with fail
       go_region_law (go_simp; go_wp2_with (first | (go_at_call 60; refine HMQ.out.mono ?_; intro e w5 hmb; obtain ⟨st, ty, nm', A1, c1, l, rfl, hk, hm⟩ := MbC.fd hmb hF; clear hmb; have HC5 := Lib.hid (HCD.out.move hm); have HK5 := Lib.hid hk; have HBQ := Lib.hid hk.2.2; have hsz5 := hm.1.size; obtain ⟨b0, b1, b2, b3⟩ := HC5.out.bx.all_4; have HWI := Lib.hid (with_F w5 (w3.heap.size + 1) wr.drew.heap.size nm ⟨#[]⟩ Af Am cf cm fs gs q.1 st ty nm' A1 c1 l HC5.out.rf HC5.out.rm HC5.out.ne HK5.out (by omega) (fun k hk => (HCD.out.rf.lt k hk).2) (fun k hk => (HCD.out.rm.lt k hk).2) (by omega) hsz5 (by omega)); clear hm hk) | (go_at_call 59; refine HWI.out.mono ?_; rintro e w7 ⟨v', rfl, ro, rm, hne, hg⟩; obtain ⟨A3, c3, rfl⟩ := ro.form; have HXB := Lib.hid (HC5.out.boxF hg); have HPUT := Lib.hid (HC5.out.putF HBQ.out ro rm hne hg); simp only [List.length_append, List.length_cons, List.length_nil, Nat.zero_add] at HPUT; clear HWI; obtain ⟨d0, d1, d2, d3⟩ := HXB.out.all_4; have g0 := HXB.out.fro 0; have g1 := HXB.out.fro 1; have g2 := HXB.out.fro 2; have g3 := HXB.out.fro 3; clear ro rm hne hg)))
       all_goals
         go_wp2_with fail
         go_roundw
         case rel => exact ⟨m, _, _, q.2, _, _, _, _, _, _, HRUN.out, by omega, HPUT.out, by simp; omega⟩
         case measure => (refine Nat.lt_of_le_of_lt (Nat.le_of_eq (lenAt_of HPUT.out.mv.2)) ?_; rw [hla]; omega)
     | false =>
       have hR : loopC (m + 1) nm f g s' = loopC m nm f (g ++ [q.1]) q.2 := by simp only [loopC, hun, hq, hF]; simp
       rw [hR] at hrun
       have HRUN := Lib.hid hrun
       have hsw : wr.drew.heap.size = wr.heap.size := rfl
       have hbl := hca.bx.lt
       clear hR hrun hq hca hun
       go_wp2_with fail
       refine HU.out.mono ?_
       clear HU
       rintro e w9 ⟨rfl, rfl⟩
       go_wp2_with fail
       go_region_law (go_simp; go_wp2_with (first | (go_at_call 60; refine HMQ.out.mono ?_; intro e w5 hmb; obtain ⟨st, ct, ty, nm', A1, A2, c1, c2, ps, l, rfl, hk, hm⟩ := MbC.mt hmb hF; clear hmb; have HC5 := Lib.hid (HCD.out.move hm); have HK5 := Lib.hid hk; have HBQ := Lib.hid hk.2.2; have hsz5 := hm.1.size; obtain ⟨b0, b1, b2, b3⟩ := HC5.out.bx.all_4; have HWI := Lib.hid (with_M w5 (w3.heap.size + 1) wr.drew.heap.size nm ⟨#[]⟩ Af Am cf cm fs gs q.1 st ct ty nm' A1 A2 c1 c2 ps l HC5.out.rf HC5.out.rm HC5.out.ne HK5.out (by omega) (fun k hk => (HCD.out.rf.lt k hk).2) (fun k hk => (HCD.out.rm.lt k hk).2) (by omega) hsz5 (by omega)); clear hm hk) | (go_at_call 59; refine HWI.out.mono ?_; rintro e w7 ⟨v', rfl, rf, ro, hne, hg⟩; obtain ⟨A3, c3, rfl⟩ := ro.form; have HXB := Lib.hid (HC5.out.boxM hg); have HPUT := Lib.hid (HC5.out.putM HBQ.out rf ro hne hg); simp only [List.length_append, List.length_cons, List.length_nil, Nat.zero_add] at HPUT; clear HWI; obtain ⟨d0, d1, d2, d3⟩ := HXB.out.all_4; have g0 := HXB.out.fro 0; have g1 := HXB.out.fro 1; have g2 := HXB.out.fro 2; have g3 := HXB.out.fro 3; clear ro rf hne hg)))
       all_goals
         go_wp2_with fail
         go_roundw
         case rel => exact ⟨m, _, _, q.2, _, _, _, _, _, _, HRUN.out, by omega, HPUT.out, by simp; omega⟩
         case measure => (refine Nat.lt_of_le_of_lt (Nat.le_of_eq (lenAt_of HPUT.out.mv.2)) ?_; rw [hla]; omega)
theorem class_1 (HE : ExAny) (HAR : ArAny) (W0 w : World) (c : Nat) (s : RS) (hv : Vars W0) (h : Rd W0 c s w) (hel : (kl1 s).sees 0 kExtends = true) : Calls Tryz.prog 35 #[.pointer (some ⟨c, 0, none⟩)] w (CsC W0 c w (clsC s)) := by
 obtain ⟨R, hR⟩ : ∃ R, clB s = R := ⟨_, rfl⟩
 have hlc : loopC ((kl3 s).len + 1) (s.need kClass).classV [] [] (kl3 s) = R := hR
 have hnm := class_len (s.need kClass)
 obtain ⟨nm, hnme⟩ : ∃ nm, (s.need kClass).classV = nm := ⟨_, rfl⟩
 obtain ⟨s3, hs3⟩ : ∃ s3, kl3 s = s3 := ⟨_, rfl⟩
 obtain ⟨s1, hs1⟩ : ∃ s1, kl1 s = s1 := ⟨_, rfl⟩
 have e1 : (s.need kClass).class = s1 := hs1
 have e3 : s1.skip.class.need sBra = s3 := by rw [← hs3, ← hs1]; unfold kl3 kl2; rw [if_pos hel]
 have hsup : clSup s = s1.skip.classV := by unfold clSup; rw [if_pos hel, hs1]
 have hsp := class_len s1.skip
 obtain ⟨sp, hspe⟩ : ∃ sp, s1.skip.classV = sp := ⟨_, rfl⟩
 rw [hspe] at hsup hsp
 have HRE : Hid (clsC s = (.cl nm sp (.slice none 0 0) (.slice none 0 0) R.1.1 R.1.2, R.2.need sKet)) := Lib.hid (by simp only [clsC, hR, hnme, hsup])
 obtain ⟨RR, hRR⟩ : ∃ RR, clsC s = RR := ⟨_, rfl⟩
 rw [hRR] at HRE ⊢
 have hlt := h.lt
 have hle0 := h.le
 obtain ⟨W1, hW1⟩ : ∃ W1, w.alloc (.cells #[.string ⟨#[]⟩, .string ⟨#[]⟩, .slice none 0 0, .slice none 0 0] 44) = W1 := ⟨_, rfl⟩
 have hb : Below w.heap.size w W1 := by rw [← hW1]; exact (Below.refl _ w).alloc (Nat.le_refl _) _
 have hx : Bx W1 w.heap.size #[.string ⟨#[]⟩, .string ⟨#[]⟩, .slice none 0 0, .slice none 0 0] 44 := by rw [← hW1]; exact Bx.new _ _ _
 have hz : W1.heap.size = w.heap.size + 1 := by rw [← hW1]; simp
 have HM := Lib.hid (Mv.below hb h)
 have HB := Lib.hid hx
 clear hb hx
 rw [hs1] at hel
 rw [hnme, hs3] at hlc
 rw [hnme] at hnm
 have HN0 : Hid (∀ w', Rd W0 c (s) w' → Calls Tryz.prog 55 #[.pointer (some ⟨c, 0, none⟩), .string kClass] w' fun e w'' => e = .returned (.tuple #[]) ∧ Mv W0 c (RS.need (s) kClass) w' w'') := by
   show ∀ w', _
   intro w' h'; exact need_any W0 w' c _ kClass h'
 have HC : Hid (∀ w', Rd W0 c (s.need kClass) w' → Calls Tryz.prog 56 #[.pointer (some ⟨c, 0, none⟩)] w' fun e w'' => e = .returned (.string (s.need kClass).classV) ∧ Mv W0 c ((s.need kClass).class) w' w'') := by
   show ∀ w', _
   intro w' h'; exact classR_any W0 w' c _ h'
 rw [hnme, e1] at HC
 have HT : Hid (∀ w', Rd W0 c (s1) w' → Calls Tryz.prog 57 #[.pointer (some ⟨c, 0, none⟩), .string kExtends] w' fun e w'' => e = .returned (.bool true) ∧ Mv W0 c (RS.skip (s1)) w' w'') := by
   show ∀ w', _
   intro w' h'; exact take_true W0 w' c s1 kExtends h' hel
 have HC2 : Hid (∀ w', Rd W0 c (s1.skip) w' → Calls Tryz.prog 56 #[.pointer (some ⟨c, 0, none⟩)] w' fun e w'' => e = .returned (.string s1.skip.classV) ∧ Mv W0 c (s1.skip.class) w' w'') := by
   show ∀ w', _
   intro w' h'; exact classR_any W0 w' c _ h'
 rw [hspe] at HC2
 have HN1 : Hid (∀ w', Rd W0 c (s1.skip.class) w' → Calls Tryz.prog 55 #[.pointer (some ⟨c, 0, none⟩), .string sBra] w' fun e w'' => e = .returned (.tuple #[]) ∧ Mv W0 c (RS.need (s1.skip.class) sBra) w' w'') := by
   show ∀ w', _
   intro w' h'; exact need_any W0 w' c _ sBra h'
 rw [e3] at HN1
 have HN2 : Hid (∀ w', Rd W0 c (R.2) w' → Calls Tryz.prog 55 #[.pointer (some ⟨c, 0, none⟩), .string sKet] w' fun e w'' => e = .returned (.tuple #[]) ∧ Mv W0 c (RS.need (R.2) sKet) w' w'') := by
   show ∀ w', _
   intro w' h'; exact need_any W0 w' c _ sKet h'
 have HMB : Hid (∀ s' w', Rd W0 c s' w' → Calls Tryz.prog 60 #[.pointer (some ⟨c, 0, none⟩), .string nm] w' (MbC W0 c w' (memM nm s'))) := by
   show ∀ s' w', _
   intro s' w' h'; exact member_any HE HAR W0 w' c s' nm hv h'
 have HLC := Lib.hid hlc
 clear hRR hR hlc hnme hs3 hs1 e1 e3 hsup h hv HE HAR hel hspe
 go_enter Tryz.func35, Tryz.ntmps35
 go_wp2_with fail
 refine (HN0.out _ HM.out.2).mono ?_
 clear HN0 hW1
 rintro e w2 ⟨rfl, hm⟩
 replace HM := Lib.hid (HM.out.trans hm)
 replace HB := Lib.hid (Bx.grown HB.out hm.1 (by omega))
 have hs2 := hm.1.size
 clear hm
 go_wp2_with fail
 refine (HC.out _ HM.out.2).mono ?_
 clear HC
 rintro e w3 ⟨rfl, hm⟩
 replace HM := Lib.hid (HM.out.trans hm)
 replace HB := Lib.hid (Bx.grown HB.out hm.1 (by omega))
 have hs3 := hm.1.size
 clear hm
 obtain ⟨W4, hW4⟩ : ∃ W, w3.alloc (.cells #[.string nm, .string ⟨#[]⟩, .slice none 0 0, .slice none 0 0] 44) = W := ⟨_, rfl⟩
 have hb : Below w3.heap.size w3 W4 := by rw [← hW4]; exact (Below.refl _ _).alloc (Nat.le_refl _) _
 have HL : Hid (Bx W4 w3.heap.size #[.string nm, .string ⟨#[]⟩, .slice none 0 0, .slice none 0 0] 44) := Lib.hid (by rw [← hW4]; exact Bx.new _ _ _)
 have hz4 : W4.heap.size = w3.heap.size + 1 := by rw [← hW4]; simp
 replace HM := Lib.hid (HM.out.trans (Mv.below hb HM.out.2))
 replace HB := Lib.hid (HB.out.next hb)
 clear hb
 subst hW4
 go_wp2_with fail
 refine (HT.out _ HM.out.2).mono ?_
 clear HT
 rintro e w5 ⟨rfl, hm⟩
 replace HM := Lib.hid (HM.out.trans hm)
 replace HB := Lib.hid (Bx.grown HB.out hm.1 (by omega))
 replace HL := Lib.hid (Bx.grown HL.out hm.1 (by omega))
 have hs5 := hm.1.size
 clear hm
 go_wp2_with fail
 refine (HC2.out _ HM.out.2).mono ?_
 clear HC2
 rintro e w6 ⟨rfl, hm⟩
 replace HM := Lib.hid (HM.out.trans hm)
 replace HB := Lib.hid (Bx.grown HB.out hm.1 (by omega))
 replace HL := Lib.hid (Bx.grown HL.out hm.1 (by omega))
 have hs6 := hm.1.size
 clear hm
 obtain ⟨x0, x1, x2, x3⟩ := HL.out.all_4
 have gx1 := HL.out.fro 1
 obtain ⟨W7, hW7⟩ : ∃ W, w6.setCell ⟨w3.heap.size, 1, none⟩ (.string sp) = W := ⟨_, rfl⟩
 have hg : w6.grownBy W7 (some w3.heap.size) := by rw [← hW7]; exact grown_set_at _ _ _ _
 have hl2 : Bx W7 w3.heap.size #[.string nm, .string sp, .slice none 0 0, .slice none 0 0] 44 := by
   rw [← hW7]
   have := HL.out.set 1 (.string sp)
   simpa using this
 replace HM := Lib.hid (Mv.over (Below.refl _ _) HM.out hg (by omega) hlt)
 replace HB := Lib.hid (Bx.grown HB.out hg (by omega))
 replace HL := Lib.hid hl2
 have hs7 := hg.size
 clear hl2 hg
 go_wp2_with fail
 refine (HN1.out _ HM.out.2).mono ?_
 clear HN1 hW7 x0 x1 x2 x3 gx1
 rintro e w8 ⟨rfl, hm⟩
 replace HM := Lib.hid (HM.out.trans hm)
 replace HB := Lib.hid (Bx.grown HB.out hm.1 (by omega))
 replace HL := Lib.hid (Bx.grown HL.out hm.1 (by omega))
 clear hm
 have HCA : Hid (ClsAt W0 w c w3.heap.size s3 nm sp [] [] w8 none none 0 0 [] []) := Lib.hid ⟨HM.out, HL.out, OwnT.nil, OwnT.nil, by simp [Value.ownBlock], rfl, rfl, by omega, hlt, HB.out, hle0⟩
 have hfew := HM.out.2.few
 have hbc : w.heap.size < w3.heap.size := by omega
 clear HM HL HB
 obtain ⟨sl, hsl⟩ : ∃ sl, s3.len = sl := ⟨_, rfl⟩
 rw [hsl] at HLC hfew
 go_wp2_with fail
 go_loopw [17] (fun v17 wr => ∃ (m : Nat) (f g : List Nd) (s' : RS) (Af Am : Option Addr) (cf cm : Nat) (fs gs : List Nd), loopC m nm f g s' = R ∧ s'.len < m ∧ ClsAt W0 w c w3.heap.size s' nm sp f g wr Af Am cf cm fs gs ∧ fs.length + gs.length + s'.len ≤ 1000001) (fun v17 wr => lenAt wr c)
 case atStart => exact ⟨sl + 1, [], [], s3, none, none, 0, 0, [], [], HLC.out, by omega, HCA.out, by simp; omega⟩
 case round =>
   obtain ⟨m, f, g, s', Af, Am, cf, cm, fs, gs, hrun, hen, hca, hbd⟩ := hrel
   obtain ⟨m, rfl⟩ : ∃ m', m = m' + 1 := ⟨m - 1, by omega⟩
   have HU := Lib.hid (until_any W0 wr c s' sKet hca.mv.2)
   have hla := lenAt_of hca.mv.2
   have HCB := Lib.hid hca
   cases hun : s'.until sKet with
   | false =>
     have hR : loopC (m + 1) nm f g s' = ((f, g), s') := by simp only [loopC, hun]; simp
     rw [hR] at hrun
     rw [hun] at HU
     subst hrun
     clear hR hun hca hla hen hbd
     go_wp2_with fail
     refine HU.out.mono ?_
     clear HU
     rintro e w9 ⟨rfl, rfl⟩
     go_wp2_with fail
     refine (HN2.out _ HCB.out.mv.2).mono ?_
     clear HN2
     rintro e w10 ⟨rfl, hm⟩
     have HC1 := Lib.hid (HCB.out.move hm)
     clear hm
     obtain ⟨y0, y1, y2, y3⟩ := HC1.out.bx.all_4
     obtain ⟨r0, r1, r2, r3⟩ := HC1.out.rb.all_4
     have g0 := HC1.out.rb.fro 0; have g1 := HC1.out.rb.fro 1; have g2 := HC1.out.rb.fro 2; have g3 := HC1.out.rb.fro 3
     have HG := Lib.hid (grown_4 w10 w.heap.size (.string nm) (.string sp) (.slice Af fs.length cf) (.slice Am gs.length cm))
     go_wp2_with fail
     obtain ⟨z0, z1, z2, z3⟩ := (HC1.out.rb.to_4 (.string nm) (.string sp) (.slice Af fs.length cf) (.slice Am gs.length cm)).all_4
     (try simp only [Exit.inBlock, Exit.then])
     refine bodyPost_ret (v := .agg #[.string nm, .string sp, .slice Af fs.length cf, .slice Am gs.length cm]) (by simp [results, Tryz.results35, go_sem, z0, z1, z2, z3]) rfl ?_
     rw [HRE.out]
     exact ⟨nm, sp, Af, Am, cf, cm, fs, gs, rfl, ((cl_node (B := w3.heap.size + 1) ⟨hnm, hsp⟩ HC1.out.rf.fk HC1.out.rm.fk HC1.out.bf HC1.out.bg).grown HG.out (.inl (by omega))).mono (by omega), Mv.over (Below.refl _ _) HC1.out.mv HG.out (Nat.le_refl _) hlt⟩
   | true =>
     rw [hun] at HU
     obtain ⟨q, hq⟩ : ∃ q, memM nm s' = q := ⟨_, rfl⟩
     have h1 : 1 ≤ s'.len := by
       cases hw : s'.ws with
       | nil => simp [RS.until, hw] at hun
       | cons x l => simp [RS.len, hw]
     have h3 : q.2.len ≤ s'.len - 1 := by rw [← hq]; exact len_memM nm s'
     have HMQ := Lib.hid (HMB.out s' wr.drew hca.mv.2.drew)
     rw [hq] at HMQ
     have HCD := Lib.hid (hca.below (Below.refl _ wr).drew)
     obtain ⟨y0, y1, y2, y3⟩ := hca.bx.all_4
     cases hF : isF q.1 with
     | true =>
       have hR : loopC (m + 1) nm f g s' = loopC m nm (f ++ [q.1]) g q.2 := by simp only [loopC, hun, hq, hF]; simp
       rw [hR] at hrun
       have HRUN := Lib.hid hrun
       have hsw : wr.drew.heap.size = wr.heap.size := rfl
       have hbl := hca.bx.lt
       clear hR hrun hq hca hun
       go_wp2_with fail
       refine HU.out.mono ?_
       clear HU
       rintro e w9 ⟨rfl, rfl⟩
       go_wp2_with fail
       go_region_law (go_simp; go_wp2_with (first | (go_at_call 60; refine HMQ.out.mono ?_; intro e w5 hmb; obtain ⟨st, ty, nm', A1, c1, l, rfl, hk, hm⟩ := MbC.fd hmb hF; clear hmb; have HC5 := Lib.hid (HCD.out.move hm); have HK5 := Lib.hid hk; have HBQ := Lib.hid hk.2.2; have hsz5 := hm.1.size; obtain ⟨b0, b1, b2, b3⟩ := HC5.out.bx.all_4; have HWI := Lib.hid (with_F w5 (w3.heap.size + 1) wr.drew.heap.size nm sp Af Am cf cm fs gs q.1 st ty nm' A1 c1 l HC5.out.rf HC5.out.rm HC5.out.ne HK5.out (by omega) (fun k hk => (HCD.out.rf.lt k hk).2) (fun k hk => (HCD.out.rm.lt k hk).2) (by omega) hsz5 (by omega)); clear hm hk) | (go_at_call 59; refine HWI.out.mono ?_; rintro e w7 ⟨v', rfl, ro, rm, hne, hg⟩; obtain ⟨A3, c3, rfl⟩ := ro.form; have HXB := Lib.hid (HC5.out.boxF hg); have HPUT := Lib.hid (HC5.out.putF HBQ.out ro rm hne hg); simp only [List.length_append, List.length_cons, List.length_nil, Nat.zero_add] at HPUT; clear HWI; obtain ⟨d0, d1, d2, d3⟩ := HXB.out.all_4; have g0 := HXB.out.fro 0; have g1 := HXB.out.fro 1; have g2 := HXB.out.fro 2; have g3 := HXB.out.fro 3; clear ro rm hne hg)))
       all_goals
         go_wp2_with fail
         go_roundw
         case rel => exact ⟨m, _, _, q.2, _, _, _, _, _, _, HRUN.out, by omega, HPUT.out, by simp; omega⟩
         case measure => (refine Nat.lt_of_le_of_lt (Nat.le_of_eq (lenAt_of HPUT.out.mv.2)) ?_; rw [hla]; omega)
     | false =>
       have hR : loopC (m + 1) nm f g s' = loopC m nm f (g ++ [q.1]) q.2 := by simp only [loopC, hun, hq, hF]; simp
       rw [hR] at hrun
       have HRUN := Lib.hid hrun
       have hsw : wr.drew.heap.size = wr.heap.size := rfl
       have hbl := hca.bx.lt
       clear hR hrun hq hca hun
       go_wp2_with fail
       refine HU.out.mono ?_
       clear HU
       rintro e w9 ⟨rfl, rfl⟩
       go_wp2_with fail
       go_region_law (go_simp; go_wp2_with (first | (go_at_call 60; refine HMQ.out.mono ?_; intro e w5 hmb; obtain ⟨st, ct, ty, nm', A1, A2, c1, c2, ps, l, rfl, hk, hm⟩ := MbC.mt hmb hF; clear hmb; have HC5 := Lib.hid (HCD.out.move hm); have HK5 := Lib.hid hk; have HBQ := Lib.hid hk.2.2; have hsz5 := hm.1.size; obtain ⟨b0, b1, b2, b3⟩ := HC5.out.bx.all_4; have HWI := Lib.hid (with_M w5 (w3.heap.size + 1) wr.drew.heap.size nm sp Af Am cf cm fs gs q.1 st ct ty nm' A1 A2 c1 c2 ps l HC5.out.rf HC5.out.rm HC5.out.ne HK5.out (by omega) (fun k hk => (HCD.out.rf.lt k hk).2) (fun k hk => (HCD.out.rm.lt k hk).2) (by omega) hsz5 (by omega)); clear hm hk) | (go_at_call 59; refine HWI.out.mono ?_; rintro e w7 ⟨v', rfl, rf, ro, hne, hg⟩; obtain ⟨A3, c3, rfl⟩ := ro.form; have HXB := Lib.hid (HC5.out.boxM hg); have HPUT := Lib.hid (HC5.out.putM HBQ.out rf ro hne hg); simp only [List.length_append, List.length_cons, List.length_nil, Nat.zero_add] at HPUT; clear HWI; obtain ⟨d0, d1, d2, d3⟩ := HXB.out.all_4; have g0 := HXB.out.fro 0; have g1 := HXB.out.fro 1; have g2 := HXB.out.fro 2; have g3 := HXB.out.fro 3; clear ro rf hne hg)))
       all_goals
         go_wp2_with fail
         go_roundw
         case rel => exact ⟨m, _, _, q.2, _, _, _, _, _, _, HRUN.out, by omega, HPUT.out, by simp; omega⟩
         case measure => (refine Nat.lt_of_le_of_lt (Nat.le_of_eq (lenAt_of HPUT.out.mv.2)) ?_; rw [hla]; omega)
theorem class_all (HE : ExAny) (HAR : ArAny) (W0 w : World) (c : Nat) (s : RS) (hv : Vars W0) (h : Rd W0 c s w) : Calls Tryz.prog 35 #[.pointer (some ⟨c, 0, none⟩)] w (CsC W0 c w (clsC s)) := by
 cases hel : (kl1 s).sees 0 kExtends with
 | false => exact class_0 HE HAR W0 w c s hv h hel
 | true => exact class_1 HE HAR W0 w c s hv h hel
end
end Go.Proofs.YtnbfajmdfkgebaaGreatDoor
