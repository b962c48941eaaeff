/- Parts of the proof: StF, ClA, ClB, ClC, ClD, ClE, ClF, Qg, Qf, Qh. -/
import Derived.Test.YtddnnohfbagbnaaGreatDoorHi
import Derived.Test.YtddnnohfbagbnaaGreatDoorP9
import Derived.Deep.Cut
import Derived.Deep.AppendLies
import Derived.Test.YtddnnohfbagbnaaGreatDoorP14
import Derived.BigCall
import Derived.Deep.CutRange
import Derived.Deep.QuietTactic
import Derived.BigQuiet
import Derived.WalkSmall
set_option maxHeartbeats 4000000
set_option maxRecDepth 100000
namespace Go.Proofs.YtddnnohfbagbnaaGreatDoor
set_option linter.unusedSimpArgs false
set_option linter.unusedVariables false
section
open Go.RowKit
theorem Rd.lated {W0 w:World} {c:Nat} {s:RS} (h:Rd W0 c s w) (k t:Int) :
 Mv W0 c (if s.lc=0 then { s with lc:=k,la:=t } else s) w (if s.lc=0 then ((w.alloc (.cells #[.int .i64 s.lc,.int .i64 s.la] 52)).setCell ⟨c,5,none⟩ (.int .i64 k)).setCell ⟨c,6,none⟩ (.int .i64 t) else w.alloc (.cells #[.int .i64 s.lc,.int .i64 s.la] 52)):=by
 have hb:=(Below.refl _ w).alloc (Nat.le_refl _) (.cells #[.int .i64 s.lc,.int .i64 s.la] 52)
 have hm:=Mv.below hb h
 split
 ·obtain ⟨hg,h1,h2,v,hw,hx⟩:=hm
  refine ⟨(hg.trans (adc _ _ _ _)).trans (adc _ _ _ _),(h1.setCell h2 _).setCell h2 _,h2,v,hw,?_⟩
  have:=(hx.set 5 (.int .i64 k)).set 6 (.int .i64 t)
  simpa using this
 ·exact hm
theorem late_any (W0 w:World) (c:Nat) (s:RS) (a:Int) (h:Rd W0 c s w):Calls Tryz.prog 106 #[.pointer (some ⟨c,5,none⟩),.int .i64 3,.int .i64 a] w fun e w'=>e=.returned (.tuple #[])∧Mv W0 c (s.lateN a) w w':=by
 obtain ⟨A,cap,hw,hm,hx⟩:=h.cells
 have c5:=hx.cell 5;have c6:=hx.cell 6;have f5:=hx.fro 5;have f6:=hx.fro 6
 simp only [List.getElem?_toArray,List.getElem?_cons_succ,List.getElem?_cons_zero] at c5 c6
 refine (note_any w c 5 s.lc s.la 3 a c5 c6 f5 f6).mono ?_
 rintro e w' ⟨rfl,rfl⟩
 exact ⟨rfl,h.lated 3 a⟩
def SpecD (n:Nat):Prop:=∀ (W0 w:World) (c:Nat) (s:RS) (ct:Bool),Vars W0→Rd W0 c s w→ab0 n (.body ct) s→Calls Tryz.prog 161 #[.pointer (some ⟨c,0,none⟩),.bool ct] w (BlC W0 c w (ae5 n (.body ct) s))
theorem block_of (n:Nat) (IH:SpecD n):agx n (ae5 n (.body false)):=by
 intro W0 w c s hv h hn
 have HX:=ke (IH W0 w c s false hv h hn)
 obtain ⟨R,hR⟩:∃ R,ae5 n (.body false) s=R:=⟨_,rfl⟩
 rw [hR] at HX ⊢
 clear hR hn h hv IH
 go_enter Tryz.func162,Tryz.ntmps162
 go_wp2_with fail
 refine HX.out.mono ?_
 clear HX
 rintro e w2 ⟨v,ys,rfl,hf,hq,hm⟩
 obtain ⟨A,cap,rfl⟩:=agz hf
 have HF:=ke hf;have HQ:=ke hq;have HM:=ke hm
 clear hf hq hm
 go_wp2_with fail
 go_ret
 exact ⟨_,ys,rfl,HF.out,HQ.out,HM.out⟩
theorem body_false (HE:abw) (HAR:adi) (n:Nat) (IH:∀ m,m≤n→SpecD m) (W0 w:World) (c:Nat) (s:RS) (hv:Vars W0) (h:Rd W0 c s w) (hn:ab0 (n+1) (.body false) s):Calls Tryz.prog 161 #[.pointer (some ⟨c,0,none⟩),.bool false] w (BlC W0 c w (ae5 (n+1) (.body false) s)):=by
 obtain ⟨R,hR⟩:∃ R,ae5 n (.loop false []) (s.enter aip)=R:=⟨_,rfl⟩
 have hRR:ae5 (n+1) (.body false) s=(R.1,R.2.leave ahw):=by simp only [ae5,hR]
 have hen:ab0 n (.loop false []) (s.enter aip):=by have:=aa4 s aip;simp only [ab0,Ms.rank] at hn ⊢;omega
 have hlt:=h.lt
 have hle0:=h.le
 have HN:=ke (afl W0 w c s aip h)
 have HLV:Hid (∀ w',Rd W0 c R.2 w'→Calls Tryz.prog 185 #[.pointer (some ⟨c,0,none⟩),.string ahw] w' fun e w''=>e=.returned (.tuple #[])∧Mv W0 c (R.2.leave ahw) w' w''):=by
  show ∀ w',_
  intro w' h';exact ai2 W0 w' c _ ahw h'
 rw [hRR]
 have HRUN:=ke hR
 have HEN:=ke hen
 have HIH:=ke IH
 have HV:=ke hv
 have HHE:=ke HE
 have HHA:=ke HAR
 obtain ⟨i0,hi,hz0,hz1,hz2⟩:=info_parts Tryz.infoSt
 clear hRR hR hen hn h IH hv HE HAR
 go_enter Tryz.func161,Tryz.ntmps161
 go_wp2_with fail
 refine HN.out.mono ?_
 clear HN
 rintro e w2 ⟨rfl,hm⟩
 have HM:=ke hm
 have hfew:=hm.2.few
 clear hm
 go_wp2_with fail
 go_loopw [5] (fun v5 wr=>∃ (m:Nat) (acc ys:List Nd) (s':RS),m≤n∧ae5 m (.loop false acc) s'=R∧ab0 m (.loop false acc) s'∧OwnT .st 141 w.heap.size none wr v5 ys∧aai ys=aai acc∧ys.length+s'.len≤1000001∧Mv W0 c s' w wr) (fun v5 wr=>lenAt wr c)
 case atStart=>exact ⟨n,[],[],s.enter aip,Nat.le_refl _,HRUN.out,HEN.out,OwnT.nil,rfl,by simp;omega,HM.out⟩
 case round =>
  obtain ⟨m,acc,ys,s',hmn,hrun,hen,ho,hbr,hbd,hm⟩:=hrel
  obtain ⟨m,rfl⟩:∃ m',m=m'+1:=⟨m - 1,by simp only [ab0,Ms.rank] at hen;omega⟩
  have HU:=ke (ais W0 wr c s' ahw hm.2)
  have hla:=abe hm.2
  cases hun:s'.until ahw with
  | false =>
   have hR:ae5 (m+1) (.loop false acc) s'=(acc,s'):=by simp only [ae5,hun];simp
   rw [hR] at hrun
   rw [hun] at HU
   have HM3:=ke hm
   have HO3:=ke ho.fk
   have HB3:=ke hbr
   subst hrun
   obtain ⟨A3,cap3,rfl⟩:=ho.form
   clear hR hun hm ho hbr hla hen hbd
   go_wp2_with fail
   refine HU.out.mono ?_
   clear HU
   rintro e w5 ⟨rfl,rfl⟩
   go_wp2_with fail
   refine (HLV.out _ HM3.out.2).mono ?_
   clear HLV
   rintro e w6 ⟨rfl,hm⟩
   have HM4:=ke hm
   clear hm
   go_wp2_with fail
   go_ret
   exact ⟨_,ys,rfl,HO3.out.grown HM4.out.1 hlt,HB3.out,HM3.out.trans HM4.out⟩
  | true =>
   rw [hun] at HU
   obtain ⟨r,hr⟩:∃ r,stS (ae5 m (.body false)) s'=r:=⟨_,rfl⟩
   have hlab:acc.length=ys.length:=(adw hbr).symm
   obtain ⟨fit,hfit⟩:∃ fit,ahk r.1 false=fit:=⟨_,rfl⟩
   have hR:ae5 (m+1) (.loop false acc) s'=ae5 m (.loop false (acc ++ [r.1])) (if fit=true then r.2 else r.2.lateN s'.at):=by simp only [ae5,hun,if_true,hr,Bool.false_and,hfit]
   rw [hR] at hrun
   have h1:1≤s'.len:=by
    cases hw:s'.ws with
    | nil=>simp [RS.until,hw] at hun
    | cons x l=>simp [RS.len,hw]
   have hm1:1≤m:=by simp only [ab0,Ms.rank] at hen;omega
   have h3:r.2.len≤s'.len - 1:=by rw [← hr];exact len_stS (fun q=>len_body m false q hm1) s'
   have hbl:∀ q,(ae5 m (.body false) q).2.len≤q.len:=fun q=>(runS_len m _ q).1
   have hgd:ag2 r.1:=by rw [← hr];exact good_stS _ _
   have HST:=ke (stmt_of HHE.out HHA.out m (ae5 m (.body false)) (block_of m (HIH.out m (by omega))) hbl W0 wr c s' HV.out hm.2 (by simp only [ab0,Ms.rank] at hen;omega))
   rw [hr] at HST
   have HAT:=ke (at_any W0 wr c s' hm.2)
   obtain ⟨av,hav⟩:∃ av,s'.at=av:=⟨_,rfl⟩
   rw [hav] at hrun HAT
   have HM3:=ke hm
   have HO3:=ke ho
   have HB3:=ke hbr
   have hws:w.heap.size≤wr.heap.size:=hm.1.size
   obtain ⟨A0,cap0,rfl⟩:=ho.form
   clear hR hr hm ho hbr hun hbl hav hlab
   go_wp2_with fail
   refine HU.out.mono ?_
   clear HU
   rintro e w3 ⟨rfl,rfl⟩
   go_wp2_with fail
   refine HAT.out.mono ?_
   clear HAT
   rintro e w3 ⟨rfl,rfl⟩
   go_wp2_with fail
   refine HST.out.mono ?_
   clear HST
   intro e w5 hst
   obtain ⟨k,m',ty,nm,A1,A2,A3,A4,c1,c2,c3,c4,l1,l2,l3,l4,rfl,hk,hm⟩:=hst.open
   clear hst
   obtain ⟨W6,hW6⟩:∃ W,w5.alloc (.cells #[.int .i64 k,.int .i32 m',.string ty,.string nm,.slice A1 l1.length c1,.slice A2 l2.length c2,.slice A3 l3.length c3,.slice A4 l4.length c4,.int .i64 0] 141)=W:=⟨_,rfl⟩
   have hb6:Below w5.heap.size w5 W6:=by rw [← hW6];exact (Below.refl _ _).alloc (Nat.le_refl _) _
   have hl6:Bx W6 w5.heap.size #[.int .i64 k,.int .i32 m',.string ty,.string nm,.slice A1 l1.length c1,.slice A2 l2.length c2,.slice A3 l3.length c3,.slice A4 l4.length c4,.int .i64 0] 141:=by rw [← hW6];exact Bx.new _ _ _
   have hk6:=hk.below hb6
   have hrw:Rw W6 .ex (.slice A1 l1.length c1) l1:=by
    have:=hk6.2.1 W6 (fun _ _ _ _ _ hu=>hu)
    rw [Kd] at this
    exact this.2.1.1
   have HFT:=ke (fitsP_any W6 k m' ty nm A1 A2 A3 A4 c1 c2 c3 c4 l1 l2 l3 l4 false hrw (good_bare hk.2.2 hgd))
   rw [fitsS_bare hk.2.2 false,hfit] at HFT
   have HM6:=ke ((HM3.out.trans hm).trans (Mv.below hb6 hm.2))
   have HO6:=ke ((HO3.out.grown hm.1 hlt).below hb6)
   have HK6:=ke hk6
   have HL6:=ke hl6
   have hs5:=hm.1.size
   have hs6:=hb6.size
   subst hW6
   clear hm hk hk6 hl6 hb6 hrw hgd hfit
   obtain ⟨a0,a1,a2,a3,a4,a5,a6,a7,a8⟩:=HL6.out.all_9
   go_wp2_with fail
   refine HFT.out.mono ?_
   clear HFT a0 a1 a2 a3 a4 a5 a6 a7 a8
   rintro e w7 ⟨rfl,hb⟩
   have HM7:=ke (HM6.out.trans (Mv.below hb HM6.out.2))
   have HO7:=ke (HO6.out.below hb)
   have HK7:=ke (HK6.out.below hb)
   have HL7:=ke (HL6.out.next hb)
   have hs7:=hb.size
   clear hb HM6 HO6 HK6 HL6
   have hsz5:w5.heap.size < w7.heap.size:=HL7.out.lt
   cases fit with
   | true =>
    simp only [if_true,Bool.false_eq_true,if_false] at hrun
    have hba:Below w7.heap.size w7 (w7.alloc (.cells #[.int .i64 k,.int .i32 m',.string ty,.string nm,.slice A1 l1.length c1,.slice A2 l2.length c2,.slice A3 l3.length c3,.slice A4 l4.length c4,.int .i64 0] 141)):=(Below.refl _ _).alloc (Nat.le_refl _) _
    have HY:=ke (OwnT.one (T:=141) HK7.out (show wr.heap.size≤w7.heap.size by omega))
    simp only [aab] at HY
    have HO9:=ke (HO7.out.below hba)
    have HM9:=ke (HM7.out.trans (Mv.below hba HM7.out.2))
    have HB9:=ke HK7.out.2.2
    have hen2:ab0 m (.loop false (acc ++ [r.1])) r.2:=by simp only [ab0,Ms.rank] at hen ⊢;omega
    have HRN:=ke hrun
    have HE9:=ke hen2
    have hwz:w.heap.size≤(w7.alloc (.cells #[.int .i64 k,.int .i32 m',.string ty,.string nm,.slice A1 l1.length c1,.slice A2 l2.length c2,.slice A3 l3.length c3,.slice A4 l4.length c4,.int .i64 0] 141)).heap.size:=Nat.le_trans (by omega) hba.size
    obtain ⟨a0,a1,a2,a3,a4,a5,a6,a7,a8⟩:=HL7.out.all_9
    have HOL:=HO3.out.lt
    clear hba hen hen2 hrun
    go_wp2_with (at_builtin;refine acw rfl (.tmp 30) (.tmp 32) 45 rfl w.heap.size 141 i0 _ 9 152 Tryz.underlying45 hi hz0 hz1 hz2 rfl (by decide) _ _ _ rfl HO9.out.1 wr.heap.size _ _ _ rfl HY.out.1 HY.out.one' ?c3 ?c4 hwz ?_)
    case c3=>unfold maxLen;simp;omega
    case c4=>simp;omega
    intro v2 w10 hown2 hgrow hat
    have HN:=ke (OwnT.app HO9.out HY.out hws (fun k hk=>(HOL k hk).2) (by simp) hown2 hgrow (hat.imp id fun e=>by rw [e];simp) (by simp;omega))
    have HMM:=ke (Mv.row HM9.out hgrow (fun k hk=>Nat.ne_of_gt (Nat.lt_of_lt_of_le hlt (HOL k hk).1)) (fun k hk=>(HOL k hk).1) hlt)
    have HBB:Hid (aai (ys ++ [.st k m' ty nm (.slice A1 l1.length c1) (.slice A2 l2.length c2) (.slice A3 l3.length c3) (.slice A4 l4.length c4) l1 l2 l3 l4 0])=aai (acc ++ [r.1])):=ke (by rw [aap,aap,HB3.out];simp only [aai];rw [HB9.out])
    clear hown2 hgrow hat
    go_wp2_with fail
    go_roundw
    case rel=>exact ⟨m,_,_,r.2,by omega,HRN.out,HE9.out,HN.out,HBB.out,by simp;omega,HMM.out⟩
    case measure=>rw [hla,abe HMM.out.2];omega
   | false =>
    simp only [if_true,Bool.false_eq_true,if_false] at hrun
    have HLN:=ke (late_any W0 w7 c r.2 av HM7.out.2)
    go_wp2_with fail
    refine HLN.out.mono ?_
    clear HLN
    rintro e w8 ⟨rfl,hm⟩
    have HM8:=ke (HM7.out.trans hm)
    have HO8:=ke (HO7.out.grown hm.1 hlt)
    have HK8:=ke (HK7.out.grown hm.1 (.inl (by omega)))
    have HL8:=ke (Bx.grown HL7.out hm.1 (by omega))
    have hs8:=hm.1.size
    clear hm
    have h4:(r.2.lateN av).len≤s'.len - 1:=by rw [akj];exact h3
    have hba:Below w8.heap.size w8 (w8.alloc (.cells #[.int .i64 k,.int .i32 m',.string ty,.string nm,.slice A1 l1.length c1,.slice A2 l2.length c2,.slice A3 l3.length c3,.slice A4 l4.length c4,.int .i64 0] 141)):=(Below.refl _ _).alloc (Nat.le_refl _) _
    have HY:=ke (OwnT.one (T:=141) HK8.out (show wr.heap.size≤w8.heap.size by omega))
    simp only [aab] at HY
    have HO9:=ke (HO8.out.below hba)
    have HM9:=ke (HM8.out.trans (Mv.below hba HM8.out.2))
    have HB9:=ke HK8.out.2.2
    have hen2:ab0 m (.loop false (acc ++ [r.1])) (r.2.lateN av):=by simp only [ab0,Ms.rank] at hen ⊢;omega
    have HRN:=ke hrun
    have HE9:=ke hen2
    have hwz:w.heap.size≤(w8.alloc (.cells #[.int .i64 k,.int .i32 m',.string ty,.string nm,.slice A1 l1.length c1,.slice A2 l2.length c2,.slice A3 l3.length c3,.slice A4 l4.length c4,.int .i64 0] 141)).heap.size:=Nat.le_trans (by omega) hba.size
    obtain ⟨a0,a1,a2,a3,a4,a5,a6,a7,a8⟩:=HL8.out.all_9
    have HOL:=HO3.out.lt
    clear hba hen hen2 hrun
    go_wp2_with (at_builtin;refine acw rfl (.tmp 30) (.tmp 32) 45 rfl w.heap.size 141 i0 _ 9 152 Tryz.underlying45 hi hz0 hz1 hz2 rfl (by decide) _ _ _ rfl HO9.out.1 wr.heap.size _ _ _ rfl HY.out.1 HY.out.one' ?c3 ?c4 hwz ?_)
    case c3=>unfold maxLen;simp;omega
    case c4=>simp;omega
    intro v2 w10 hown2 hgrow hat
    have HN:=ke (OwnT.app HO9.out HY.out hws (fun k hk=>(HOL k hk).2) (by simp) hown2 hgrow (hat.imp id fun e=>by rw [e];simp) (by simp;omega))
    have HMM:=ke (Mv.row HM9.out hgrow (fun k hk=>Nat.ne_of_gt (Nat.lt_of_lt_of_le hlt (HOL k hk).1)) (fun k hk=>(HOL k hk).1) hlt)
    have HBB:Hid (aai (ys ++ [.st k m' ty nm (.slice A1 l1.length c1) (.slice A2 l2.length c2) (.slice A3 l3.length c3) (.slice A4 l4.length c4) l1 l2 l3 l4 0])=aai (acc ++ [r.1])):=ke (by rw [aap,aap,HB3.out];simp only [aai];rw [HB9.out])
    clear hown2 hgrow hat
    go_wp2_with fail
    go_roundw
    case rel=>exact ⟨m,_,_,(r.2.lateN av),by omega,HRN.out,HE9.out,HN.out,HBB.out,by simp;omega,HMM.out⟩
    case measure=>rw [hla,abe HMM.out.2];omega
theorem body_true (HE:abw) (HAR:adi) (n:Nat) (IH:∀ m,m≤n→SpecD m) (W0 w:World) (c:Nat) (s:RS) (hv:Vars W0) (h:Rd W0 c s w) (hn:ab0 (n+1) (.body true) s):Calls Tryz.prog 161 #[.pointer (some ⟨c,0,none⟩),.bool true] w (BlC W0 c w (ae5 (n+1) (.body true) s)):=by
 obtain ⟨R,hR⟩:∃ R,ae5 n (.loop true []) (s.enter aip)=R:=⟨_,rfl⟩
 have hRR:ae5 (n+1) (.body true) s=(R.1,R.2.leave ahw):=by simp only [ae5,hR]
 have hen:ab0 n (.loop true []) (s.enter aip):=by have:=aa4 s aip;simp only [ab0,Ms.rank] at hn ⊢;omega
 have hlt:=h.lt
 have hle0:=h.le
 have HN:=ke (afl W0 w c s aip h)
 have HLV:Hid (∀ w',Rd W0 c R.2 w'→Calls Tryz.prog 185 #[.pointer (some ⟨c,0,none⟩),.string ahw] w' fun e w''=>e=.returned (.tuple #[])∧Mv W0 c (R.2.leave ahw) w' w''):=by
  show ∀ w',_
  intro w' h';exact ai2 W0 w' c _ ahw h'
 rw [hRR]
 have HRUN:=ke hR
 have HEN:=ke hen
 have HIH:=ke IH
 have HV:=ke hv
 have HHE:=ke HE
 have HHA:=ke HAR
 obtain ⟨i0,hi,hz0,hz1,hz2⟩:=info_parts Tryz.infoSt
 clear hRR hR hen hn h IH hv HE HAR
 go_enter Tryz.func161,Tryz.ntmps161
 go_wp2_with fail
 refine HN.out.mono ?_
 clear HN
 rintro e w2 ⟨rfl,hm⟩
 have HM:=ke hm
 have hfew:=hm.2.few
 clear hm
 go_wp2_with fail
 go_loopw [5] (fun v5 wr=>∃ (m:Nat) (acc ys:List Nd) (s':RS),m≤n∧ae5 m (.loop true acc) s'=R∧ab0 m (.loop true acc) s'∧OwnT .st 141 w.heap.size none wr v5 ys∧aai ys=aai acc∧ys.length+s'.len≤1000001∧Mv W0 c s' w wr) (fun v5 wr=>lenAt wr c)
 case atStart=>exact ⟨n,[],[],s.enter aip,Nat.le_refl _,HRUN.out,HEN.out,OwnT.nil,rfl,by simp;omega,HM.out⟩
 case round =>
  obtain ⟨m,acc,ys,s',hmn,hrun,hen,ho,hbr,hbd,hm⟩:=hrel
  obtain ⟨m,rfl⟩:∃ m',m=m'+1:=⟨m - 1,by simp only [ab0,Ms.rank] at hen;omega⟩
  have HU:=ke (ais W0 wr c s' ahw hm.2)
  have hla:=abe hm.2
  cases hun:s'.until ahw with
  | false =>
   have hR:ae5 (m+1) (.loop true acc) s'=(acc,s'):=by simp only [ae5,hun];simp
   rw [hR] at hrun
   rw [hun] at HU
   have HM3:=ke hm
   have HO3:=ke ho.fk
   have HB3:=ke hbr
   subst hrun
   obtain ⟨A3,cap3,rfl⟩:=ho.form
   clear hR hun hm ho hbr hla hen hbd
   go_wp2_with fail
   refine HU.out.mono ?_
   clear HU
   rintro e w5 ⟨rfl,rfl⟩
   go_wp2_with fail
   refine (HLV.out _ HM3.out.2).mono ?_
   clear HLV
   rintro e w6 ⟨rfl,hm⟩
   have HM4:=ke hm
   clear hm
   go_wp2_with fail
   go_ret
   exact ⟨_,ys,rfl,HO3.out.grown HM4.out.1 hlt,HB3.out,HM3.out.trans HM4.out⟩
  | true =>
   rw [hun] at HU
   obtain ⟨r,hr⟩:∃ r,stS (ae5 m (.body false)) s'=r:=⟨_,rfl⟩
   have hlab:acc.length=ys.length:=(adw hbr).symm
   obtain ⟨fq,hfq⟩:∃ fq,((ys.length:Int) == 0)=fq:=⟨_,rfl⟩
   have hfe:(true && acc.isEmpty)=fq:=by
    rw [← hfq,Bool.true_and]
    cases acc with
    | nil=>simp only [List.length_nil] at hlab;rw [← hlab];rfl
    | cons x l=>simp only [List.length_cons] at hlab;rw [← hlab];rfl
   obtain ⟨fit,hfit⟩:∃ fit,ahk r.1 fq=fit:=⟨_,rfl⟩
   have hR:ae5 (m+1) (.loop true acc) s'=ae5 m (.loop true (acc ++ [r.1])) (if fit=true then r.2 else r.2.lateN s'.at):=by simp only [ae5,hun,if_true,hr,hfe,hfit]
   rw [hR] at hrun
   have h1:1≤s'.len:=by
    cases hw:s'.ws with
    | nil=>simp [RS.until,hw] at hun
    | cons x l=>simp [RS.len,hw]
   have hm1:1≤m:=by simp only [ab0,Ms.rank] at hen;omega
   have h3:r.2.len≤s'.len - 1:=by rw [← hr];exact len_stS (fun q=>len_body m false q hm1) s'
   have hbl:∀ q,(ae5 m (.body false) q).2.len≤q.len:=fun q=>(runS_len m _ q).1
   have hgd:ag2 r.1:=by rw [← hr];exact good_stS _ _
   have HST:=ke (stmt_of HHE.out HHA.out m (ae5 m (.body false)) (block_of m (HIH.out m (by omega))) hbl W0 wr c s' HV.out hm.2 (by simp only [ab0,Ms.rank] at hen;omega))
   rw [hr] at HST
   have HAT:=ke (at_any W0 wr c s' hm.2)
   obtain ⟨av,hav⟩:∃ av,s'.at=av:=⟨_,rfl⟩
   rw [hav] at hrun HAT
   have HM3:=ke hm
   have HO3:=ke ho
   have HB3:=ke hbr
   have hws:w.heap.size≤wr.heap.size:=hm.1.size
   obtain ⟨A0,cap0,rfl⟩:=ho.form
   clear hR hr hm ho hbr hun hbl hav hlab
   go_wp2_with fail
   refine HU.out.mono ?_
   clear HU
   rintro e w3 ⟨rfl,rfl⟩
   go_wp2_with fail
   refine HAT.out.mono ?_
   clear HAT
   rintro e w3 ⟨rfl,rfl⟩
   go_wp2_with fail
   refine HST.out.mono ?_
   clear HST
   intro e w5 hst
   obtain ⟨k,m',ty,nm,A1,A2,A3,A4,c1,c2,c3,c4,l1,l2,l3,l4,rfl,hk,hm⟩:=hst.open
   clear hst
   obtain ⟨W6,hW6⟩:∃ W,w5.alloc (.cells #[.int .i64 k,.int .i32 m',.string ty,.string nm,.slice A1 l1.length c1,.slice A2 l2.length c2,.slice A3 l3.length c3,.slice A4 l4.length c4,.int .i64 0] 141)=W:=⟨_,rfl⟩
   have hb6:Below w5.heap.size w5 W6:=by rw [← hW6];exact (Below.refl _ _).alloc (Nat.le_refl _) _
   have hl6:Bx W6 w5.heap.size #[.int .i64 k,.int .i32 m',.string ty,.string nm,.slice A1 l1.length c1,.slice A2 l2.length c2,.slice A3 l3.length c3,.slice A4 l4.length c4,.int .i64 0] 141:=by rw [← hW6];exact Bx.new _ _ _
   have hk6:=hk.below hb6
   have hrw:Rw W6 .ex (.slice A1 l1.length c1) l1:=by
    have:=hk6.2.1 W6 (fun _ _ _ _ _ hu=>hu)
    rw [Kd] at this
    exact this.2.1.1
   have HFT:=ke (fitsP_any W6 k m' ty nm A1 A2 A3 A4 c1 c2 c3 c4 l1 l2 l3 l4 fq hrw (good_bare hk.2.2 hgd))
   rw [fitsS_bare hk.2.2 fq,hfit] at HFT
   have HM6:=ke ((HM3.out.trans hm).trans (Mv.below hb6 hm.2))
   have HO6:=ke ((HO3.out.grown hm.1 hlt).below hb6)
   have HK6:=ke hk6
   have HL6:=ke hl6
   have hs5:=hm.1.size
   have hs6:=hb6.size
   subst hW6
   clear hm hk hk6 hl6 hb6 hrw hgd hfit
   obtain ⟨a0,a1,a2,a3,a4,a5,a6,a7,a8⟩:=HL6.out.all_9
   go_wp2_with fail
   refine HFT.out.mono ?_
   clear HFT a0 a1 a2 a3 a4 a5 a6 a7 a8
   rintro e w7 ⟨rfl,hb⟩
   have HM7:=ke (HM6.out.trans (Mv.below hb HM6.out.2))
   have HO7:=ke (HO6.out.below hb)
   have HK7:=ke (HK6.out.below hb)
   have HL7:=ke (HL6.out.next hb)
   have hs7:=hb.size
   clear hb HM6 HO6 HK6 HL6
   have hsz5:w5.heap.size < w7.heap.size:=HL7.out.lt
   cases fit with
   | true =>
    simp only [if_true,Bool.false_eq_true,if_false] at hrun
    have hba:Below w7.heap.size w7 (w7.alloc (.cells #[.int .i64 k,.int .i32 m',.string ty,.string nm,.slice A1 l1.length c1,.slice A2 l2.length c2,.slice A3 l3.length c3,.slice A4 l4.length c4,.int .i64 0] 141)):=(Below.refl _ _).alloc (Nat.le_refl _) _
    have HY:=ke (OwnT.one (T:=141) HK7.out (show wr.heap.size≤w7.heap.size by omega))
    simp only [aab] at HY
    have HO9:=ke (HO7.out.below hba)
    have HM9:=ke (HM7.out.trans (Mv.below hba HM7.out.2))
    have HB9:=ke HK7.out.2.2
    have hen2:ab0 m (.loop true (acc ++ [r.1])) r.2:=by simp only [ab0,Ms.rank] at hen ⊢;omega
    have HRN:=ke hrun
    have HE9:=ke hen2
    have hwz:w.heap.size≤(w7.alloc (.cells #[.int .i64 k,.int .i32 m',.string ty,.string nm,.slice A1 l1.length c1,.slice A2 l2.length c2,.slice A3 l3.length c3,.slice A4 l4.length c4,.int .i64 0] 141)).heap.size:=Nat.le_trans (by omega) hba.size
    obtain ⟨a0,a1,a2,a3,a4,a5,a6,a7,a8⟩:=HL7.out.all_9
    have HOL:=HO3.out.lt
    clear hba hen hen2 hrun
    go_wp2_with (at_builtin;refine acw rfl (.tmp 30) (.tmp 32) 45 rfl w.heap.size 141 i0 _ 9 152 Tryz.underlying45 hi hz0 hz1 hz2 rfl (by decide) _ _ _ rfl HO9.out.1 wr.heap.size _ _ _ rfl HY.out.1 HY.out.one' ?c3 ?c4 hwz ?_)
    case c3=>unfold maxLen;simp;omega
    case c4=>simp;omega
    intro v2 w10 hown2 hgrow hat
    have HN:=ke (OwnT.app HO9.out HY.out hws (fun k hk=>(HOL k hk).2) (by simp) hown2 hgrow (hat.imp id fun e=>by rw [e];simp) (by simp;omega))
    have HMM:=ke (Mv.row HM9.out hgrow (fun k hk=>Nat.ne_of_gt (Nat.lt_of_lt_of_le hlt (HOL k hk).1)) (fun k hk=>(HOL k hk).1) hlt)
    have HBB:Hid (aai (ys ++ [.st k m' ty nm (.slice A1 l1.length c1) (.slice A2 l2.length c2) (.slice A3 l3.length c3) (.slice A4 l4.length c4) l1 l2 l3 l4 0])=aai (acc ++ [r.1])):=ke (by rw [aap,aap,HB3.out];simp only [aai];rw [HB9.out])
    clear hown2 hgrow hat
    go_wp2_with fail
    go_roundw
    case rel=>exact ⟨m,_,_,r.2,by omega,HRN.out,HE9.out,HN.out,HBB.out,by simp;omega,HMM.out⟩
    case measure=>rw [hla,abe HMM.out.2];omega
   | false =>
    simp only [if_true,Bool.false_eq_true,if_false] at hrun
    have HLN:=ke (late_any W0 w7 c r.2 av HM7.out.2)
    go_wp2_with fail
    refine HLN.out.mono ?_
    clear HLN
    rintro e w8 ⟨rfl,hm⟩
    have HM8:=ke (HM7.out.trans hm)
    have HO8:=ke (HO7.out.grown hm.1 hlt)
    have HK8:=ke (HK7.out.grown hm.1 (.inl (by omega)))
    have HL8:=ke (Bx.grown HL7.out hm.1 (by omega))
    have hs8:=hm.1.size
    clear hm
    have h4:(r.2.lateN av).len≤s'.len - 1:=by rw [akj];exact h3
    have hba:Below w8.heap.size w8 (w8.alloc (.cells #[.int .i64 k,.int .i32 m',.string ty,.string nm,.slice A1 l1.length c1,.slice A2 l2.length c2,.slice A3 l3.length c3,.slice A4 l4.length c4,.int .i64 0] 141)):=(Below.refl _ _).alloc (Nat.le_refl _) _
    have HY:=ke (OwnT.one (T:=141) HK8.out (show wr.heap.size≤w8.heap.size by omega))
    simp only [aab] at HY
    have HO9:=ke (HO8.out.below hba)
    have HM9:=ke (HM8.out.trans (Mv.below hba HM8.out.2))
    have HB9:=ke HK8.out.2.2
    have hen2:ab0 m (.loop true (acc ++ [r.1])) (r.2.lateN av):=by simp only [ab0,Ms.rank] at hen ⊢;omega
    have HRN:=ke hrun
    have HE9:=ke hen2
    have hwz:w.heap.size≤(w8.alloc (.cells #[.int .i64 k,.int .i32 m',.string ty,.string nm,.slice A1 l1.length c1,.slice A2 l2.length c2,.slice A3 l3.length c3,.slice A4 l4.length c4,.int .i64 0] 141)).heap.size:=Nat.le_trans (by omega) hba.size
    obtain ⟨a0,a1,a2,a3,a4,a5,a6,a7,a8⟩:=HL8.out.all_9
    have HOL:=HO3.out.lt
    clear hba hen hen2 hrun
    go_wp2_with (at_builtin;refine acw rfl (.tmp 30) (.tmp 32) 45 rfl w.heap.size 141 i0 _ 9 152 Tryz.underlying45 hi hz0 hz1 hz2 rfl (by decide) _ _ _ rfl HO9.out.1 wr.heap.size _ _ _ rfl HY.out.1 HY.out.one' ?c3 ?c4 hwz ?_)
    case c3=>unfold maxLen;simp;omega
    case c4=>simp;omega
    intro v2 w10 hown2 hgrow hat
    have HN:=ke (OwnT.app HO9.out HY.out hws (fun k hk=>(HOL k hk).2) (by simp) hown2 hgrow (hat.imp id fun e=>by rw [e];simp) (by simp;omega))
    have HMM:=ke (Mv.row HM9.out hgrow (fun k hk=>Nat.ne_of_gt (Nat.lt_of_lt_of_le hlt (HOL k hk).1)) (fun k hk=>(HOL k hk).1) hlt)
    have HBB:Hid (aai (ys ++ [.st k m' ty nm (.slice A1 l1.length c1) (.slice A2 l2.length c2) (.slice A3 l3.length c3) (.slice A4 l4.length c4) l1 l2 l3 l4 0])=aai (acc ++ [r.1])):=ke (by rw [aap,aap,HB3.out];simp only [aai];rw [HB9.out])
    clear hown2 hgrow hat
    go_wp2_with fail
    go_roundw
    case rel=>exact ⟨m,_,_,(r.2.lateN av),by omega,HRN.out,HE9.out,HN.out,HBB.out,by simp;omega,HMM.out⟩
    case measure=>rw [hla,abe HMM.out.2];omega
theorem body_of (HE:abw) (HAR:adi) (n:Nat) (IH:∀ m,m≤n→SpecD m):SpecD (n+1):=by
 intro W0 w c s ct hv h hn
 cases ct with
 | false=>exact body_false HE HAR n IH W0 w c s hv h hn
 | true=>exact body_true HE HAR n IH W0 w c s hv h hn
theorem body_all (HE:abw) (HAR:adi):∀ n,SpecD n:=by
 intro n
 induction n using Nat.strongRecOn with
 | ind n ih =>
  cases n with
  | zero=>intro W0 w c s ct hv h hn;simp only [ab0,Ms.rank] at hn;omega
  | succ n=>exact body_of HE HAR n fun m hm=>ih m (by omega)
theorem bd_any (HE:abw) (HAR:adi) (W0 w:World) (c:Nat) (s:RS) (ct:Bool) (hv:Vars W0) (h:Rd W0 c s w):Calls Tryz.prog 161 #[.pointer (some ⟨c,0,none⟩),.bool ct] w (BlC W0 c w (bd ct s)):=body_all HE HAR (4 * s.len+3) W0 w c s ct hv h (Nat.le_refl _)
theorem bk_any (HE:abw) (HAR:adi) (W0 w:World) (c:Nat) (s:RS) (hv:Vars W0) (h:Rd W0 c s w):Calls Tryz.prog 162 #[.pointer (some ⟨c,0,none⟩)] w (BlC W0 c w (bd false s)):=block_of _ (body_all HE HAR (4 * s.len+3)) W0 w c s hv h (Nat.le_refl _)
end
section
open Go.RowKit
def ahb (x:Pm):List Value:=[.string x.1,.string x.2]
def OwnP (B:Nat) (w:World) (v:Value) (l:List Pm):Prop:=w.ownsRow B 139 2 v l.length (l.flatMap ahb)∧(∀ x ∈ l,x.1.size≤maxLen∧x.2.size≤maxLen)∧l.length≤2000000
theorem OwnP.nil (B:Nat) (w:World):OwnP B w (.slice none 0 0) []:=⟨World.ownsRow_nil _ _ _ _,by simp,by simp⟩
theorem OwnP.form {B:Nat} {w:World} {v:Value} {l:List Pm} (h:OwnP B w v l):∃ A cap,v=.slice A l.length cap:=by obtain ⟨A,cap,e,_⟩:=abc h.1;exact ⟨A,cap,e⟩
theorem OwnP.lt {B:Nat} {w:World} {v:Value} {l:List Pm} (h:OwnP B w v l):∀ k,v.ownBlock=some k→B≤k∧k < w.heap.size:=h.1.lt
theorem OwnP.grown {B c:Nat} {w w':World} {v:Value} {l:List Pm} (h:OwnP B w v l) (hg:w.grownBy w' (some c)) (hc:c < B):OwnP B w' v l :=
 ⟨h.1.kept hg (by
   cases hv':v.ownBlock with
   | none=>exact .inl rfl
   | some k=>exact .inr (by have:=(h.lt k hv').1;simp;omega)),h.2.1,h.2.2⟩
theorem OwnP.below {B:Nat} {w w':World} {v:Value} {l:List Pm} (h:OwnP B w v l) (hb:Below w.heap.size w w'):OwnP B w' v l:=⟨abr h.1 hb,h.2.1,h.2.2⟩
theorem OwnP.mono {B C:Nat} {w:World} {v:Value} {l:List Pm} (h:OwnP B w v l) (hC:C≤B):OwnP C w v l:=⟨aiw h.1 hC,h.2.1,h.2.2⟩
theorem pflat_get:∀ (l:List Pm) (i j:Nat) (x:Pm),l[i]?=some x→j < 2→(l.flatMap ahb)[i * 2+j]?=(ahb x)[j]?
 | [],i,j,x,h,_=>by simp at h
 | y :: l,0,j,x,h,hj=>by
  simp only [List.getElem?_cons_zero,Option.some.injEq] at h
  subst h
  simp only [List.flatMap_cons,Nat.zero_mul,Nat.zero_add]
  rw [List.getElem?_append_left (by simpa [ahb] using hj)]
 | y :: l,i+1,j,x,h,hj=>by
  simp only [List.getElem?_cons_succ] at h
  have:=pflat_get l i j x h hj
  simp only [List.flatMap_cons]
  rw [List.getElem?_append_right (by simp [ahb];omega),← this]
  congr 1
  simp [ahb];omega
theorem OwnP.fk {B:Nat} {w:World} {v:Value} {l:List Pm} (h:OwnP B w v l):FkP B w v l:=by
 obtain ⟨ho,hs,hm⟩:=h
 intro ws hws
 obtain ⟨A,cap,rfl,hc⟩:=abc ho
 refine ⟨A,cap,rfl,by unfold maxLen;omega,hs,fun hn=>?_⟩
 obtain ⟨g,cap',hv,hg,hl,hat⟩:=ags ho hn
 injection hv with h1 h2 h3
 refine ⟨g,0,h1,fun i x hx=>⟨?_,?_⟩⟩
 ·have:=(hat (i * 2+0) (.string x.1) (by rw [pflat_get l i 0 x hx (by omega)];rfl)).1
  rw [Nat.zero_add]
  exact hws g _ _ hg this
 ·have:=(hat (i * 2+1) (.string x.2) (by rw [pflat_get l i 1 x hx (by omega)];rfl)).1
  rw [Nat.zero_add]
  exact hws g _ _ hg this
theorem pm_one (l:List Pm):∀ u ∈ l.flatMap ahb,u.oneCell'=true:=by
 intro u hu
 rw [List.mem_flatMap] at hu
 obtain ⟨x,hx,hu⟩:=hu
 simp only [ahb,List.mem_cons,List.not_mem_nil,or_false] at hu
 rcases hu with rfl|rfl<;>rfl
theorem OwnP.one {B:Nat} {W:World} {x:Pm} (hx:x.1.size≤maxLen∧x.2.size≤maxLen) (hB:B≤W.heap.size):OwnP B (W.alloc (.cells #[.string x.1,.string x.2] 139)) (.slice (some ⟨W.heap.size,0,none⟩) 1 1) [x]:=by
 have hl:=World.ownsRow_lit (base:=B) (e:=139) (size:=2) W #[.string x.1,.string x.2] 1 hB (by unfold maxLen;omega) (by simp)
 exact ⟨by simpa [ahb] using hl,by simpa using hx,by simp⟩
theorem OwnP.app {B B2:Nat} {w w':World} {v v2 v':Value} {xs ys:List Pm} (h:OwnP B w v xs) (h2:OwnP B2 w v2 ys) (ho:w'.ownsRow B 139 2 v' (xs.length+ys.length) (xs.flatMap ahb ++ ys.flatMap ahb)) (hm:xs.length+ys.length≤2000000):OwnP B w' v' (xs ++ ys) :=
 ⟨by simpa using ho,fun y hy=>by
   rcases List.mem_append.1 hy with hy|hy
   ·exact h.2.1 y hy
   ·exact h2.2.1 y hy,by simpa using hm⟩
theorem parV_len (s:RS):(parV s).1.1.size≤maxLen∧(parV s).1.2.size≤maxLen:=⟨ajl s,abz s.typ⟩
def PrC (W0:World) (c:Nat) (w:World) (r:Pm×RS) (e:Ending) (w':World):Prop:=e=.returned (.agg #[.string r.1.1,.string r.1.2])∧Mv W0 c r.2 w w'
def PsC (W0:World) (c:Nat) (w:World) (r:List Pm×RS) (e:Ending) (w':World):Prop:=∃ v,e=.returned v∧OwnP w.heap.size w' v r.1∧Mv W0 c r.2 w w'
def PrAny:Prop:=∀ (W0 w:World) (c:Nat) (s:RS),Rd W0 c s w→Calls Tryz.prog 182 #[.pointer (some ⟨c,0,none⟩)] w (PrC W0 c w (parV s))
theorem param_any:PrAny:=by
 intro W0 w c s h
 have hlt:=h.lt
 have hle0:=h.le
 obtain ⟨W1,hW1⟩:∃ W1,w.alloc (.cells #[.string ⟨#[]⟩,.string ⟨#[]⟩] 139)=W1:=⟨_,rfl⟩
 have hb:Below w.heap.size w W1:=by rw [← hW1];exact (Below.refl _ w).alloc (Nat.le_refl _) _
 have hx:Bx W1 w.heap.size #[.string ⟨#[]⟩,.string ⟨#[]⟩] 139:=by rw [← hW1];exact Bx.new _ _ _
 have hz:W1.heap.size=w.heap.size+1:=by rw [← hW1];simp
 have HM:=ke (Mv.below hb h)
 have HB:=ke hx
 clear hb hx
 have HT:Hid (∀ w',Rd W0 c (s) w'→Calls Tryz.prog 123 #[.pointer (some ⟨c,0,none⟩)] w' fun e w''=>e=.returned (.string s.typV)∧Mv W0 c (s.typ) w' w''):=by
  show ∀ w',_
  intro w' h';exact ahs W0 w' c _ h'
 have HNM:Hid (∀ w',Rd W0 c (s.typ) w'→Calls Tryz.prog 122 #[.pointer (some ⟨c,0,none⟩)] w' fun e w''=>e=.returned (.string s.typ.nameV)∧Mv W0 c (s.typ.name) w' w''):=by
  show ∀ w',_
  intro w' h';exact acq W0 w' c _ h'
 obtain ⟨t,ht⟩:∃ t,s.typV=t:=⟨_,rfl⟩
 obtain ⟨n,hn⟩:∃ n,s.typ.nameV=n:=⟨_,rfl⟩
 obtain ⟨s2,hs2⟩:∃ s2,s.typ.name=s2:=⟨_,rfl⟩
 have hR:parV s=((t,n),s2):=by rw [← ht,← hn,← hs2];rfl
 rw [ht] at HT
 rw [hn,hs2] at HNM
 rw [hR]
 clear hR ht hn hs2 h
 go_enter Tryz.func182,Tryz.ntmps182
 go_wp2_with fail
 refine (HT.out _ HM.out.2).mono ?_
 clear HT hW1
 rintro e w2 ⟨rfl,hm⟩
 replace HM:=ke (HM.out.trans hm)
 replace HB:=ke (Bx.grown HB.out hm.1 (by omega))
 have hs2:=hm.1.size
 clear hm
 go_wp2_with fail
 refine (HNM.out _ HM.out.2).mono ?_
 clear HNM
 rintro e w3 ⟨rfl,hm⟩
 replace HM:=ke (HM.out.trans hm)
 replace HB:=ke (Bx.grown HB.out hm.1 (by omega))
 have hs3:=hm.1.size
 clear hm
 obtain ⟨r0,r1⟩:=HB.out.all_2
 have g0:=HB.out.fro 0;have g1:=HB.out.fro 1
 have HG:=ke (grown_2 w3 w.heap.size (.string t) (.string n))
 go_wp2_with fail
 obtain ⟨z0,z1⟩:=(HB.out.to_2 (.string t) (.string n)).all_2
 (try simp only [Exit.inBlock,Exit.then])
 refine bodyPost_ret (v:=.agg #[.string t,.string n]) (by simp [results,Tryz.results182,go_sem,z0,z1]) rfl ?_
 exact ⟨rfl,Mv.over (Below.refl _ _) HM.out HG.out (Nat.le_refl _) hlt⟩
theorem listedP_any (HP:PrAny) (W0 w:World) (c:Nat) (s:RS) (h:Rd W0 c s w):Calls Tryz.prog 181 #[.pointer (some ⟨c,0,none⟩),.func (.func 182) #[] #[]] w (PsC W0 c w (lstP s)):=by
 have hlt:=h.lt
 have hle0:=h.le
 have HS:=ke (abo W0 w c s aa6 h)
 cases hsee:s.sees 0 aa6 with
 | true =>
  have hR:lstP s=([],s):=by simp only [lstP,hsee,if_true]
  rw [hsee] at HS
  have HM:=ke (Mv.refl h)
  rw [hR]
  clear hR hsee h HP
  go_enter Tryz.func181,Tryz.ntmps181
  go_wp2_with fail
  refine HS.out.mono ?_
  clear HS
  rintro e w1 ⟨rfl,rfl⟩
  go_wp2_with fail
  go_ret
  exact ⟨_,rfl,OwnP.nil _ _,HM.out⟩
 | false =>
  obtain ⟨r,hr⟩:∃ r,parV s=r:=⟨_,rfl⟩
  obtain ⟨R,hR⟩:∃ R,moreP (s.len+1) [r.1] r.2=R:=⟨_,rfl⟩
  have hRR:lstP s=R:=by simp only [lstP,hsee,hr,hR];simp
  have hl1:r.2.len≤s.len - 1:=by rw [← hr];exact akh s
  have hz:r.1.1.size≤maxLen∧r.1.2.size≤maxLen:=by rw [← hr];exact parV_len s
  have hfew:=h.few
  have HX:=ke (HP W0 w c s h)
  rw [hr] at HX
  rw [hsee] at HS
  rw [hRR]
  have HIH:=ke HP
  have HR:=ke hR
  obtain ⟨sl,hsl⟩:∃ sl,s.len=sl:=⟨_,rfl⟩
  rw [hsl] at HR hl1 hfew
  obtain ⟨⟨p1,p2⟩,s1⟩:=r
  simp only at HR hl1 hz
  obtain ⟨i0,hi,hz0,hz1,hz2⟩:=info_parts Tryz.infoPm
  clear hr hR hRR h HP hsee hsl
  go_enter Tryz.func181,Tryz.ntmps181
  go_wp2_with fail
  refine HS.out.mono ?_
  clear HS
  rintro e w1 ⟨rfl,rfl⟩
  go_wp2_with fail
  refine HX.out.mono ?_
  clear HX
  rintro e w2 ⟨rfl,hm⟩
  have HO:=ke (OwnP.one (x:=(p1,p2)) hz (show w.heap.size≤w2.heap.size from hm.1.size))
  have HM2:=ke (hm.trans (Mv.below ((Below.refl _ w2).alloc (Nat.le_refl _) (.cells #[.string p1,.string p2] 139)) hm.2))
  clear hm
  go_wp2_with fail
  go_loopw [5] (fun v5 wr=>∃ (m:Nat) (acc:List Pm) (s':RS),moreP m acc s'=R∧s'.len < m∧OwnP w.heap.size wr v5 acc∧acc.length+s'.len≤1000001∧Mv W0 c s' w wr) (fun v5 wr=>lenAt wr c)
  case atStart=>exact ⟨sl+1,_,s1,HR.out,by omega,HO.out,by simp;omega,HM2.out⟩
  case round =>
   obtain ⟨m,acc,s',hrun,hen,ho,hbd,hm⟩:=hrel
   obtain ⟨m,rfl⟩:∃ m',m=m'+1:=⟨m - 1,by omega⟩
   have hla:=abe hm.2
   cases hsee:s'.sees 0 aei with
   | false =>
    have HT:=ke (aaa W0 wr c s' aei hm.2 hsee)
    have hR:moreP (m+1) acc s'=(acc,s'):=by simp only [moreP,hsee];simp
    rw [hR] at hrun
    have HM3:=ke hm
    have HO3:=ke ho
    subst hrun
    obtain ⟨A3,cap3,rfl⟩:=ho.form
    clear hR hsee hm ho hla hen hbd
    go_wp2_with fail
    refine HT.out.mono ?_
    clear HT
    rintro e w5 ⟨rfl,rfl⟩
    go_wp2_with fail
    go_ret
    exact ⟨_,rfl,HO3.out,HM3.out⟩
   | true =>
    have HT:=ke (aa3 W0 wr c s' aei hm.2 hsee)
    obtain ⟨q,hq⟩:∃ q,parV s'.skip=q:=⟨_,rfl⟩
    have hR:moreP (m+1) acc s'=moreP m (acc ++ [q.1]) q.2:=by simp only [moreP,hsee,hq];simp
    rw [hR] at hrun
    have h1:=ace hsee
    have h2:=aaf s'
    have h3:q.2.len≤s'.skip.len - 1:=by rw [← hq];exact akh _
    have hz:q.1.1.size≤maxLen∧q.1.2.size≤maxLen:=by rw [← hq];exact parV_len _
    have HX:Hid (∀ w',Rd W0 c s'.skip w'→Calls Tryz.prog 182 #[.pointer (some ⟨c,0,none⟩)] w' (PrC W0 c w' q)):=by
     show ∀ w',_
     intro w' h';have:=HIH.out W0 w' c _ h';rw [hq] at this;exact this
    have HM3:=ke hm
    have HO3:=ke ho
    have HRUN:=ke hrun
    obtain ⟨A3,cap3,rfl⟩:=ho.form
    obtain ⟨⟨q1,q2⟩,s2⟩:=q
    simp only at hz h3
    clear hR hsee hm ho hrun hq
    go_wp2_with fail
    refine HT.out.mono ?_
    clear HT
    rintro e w5 ⟨rfl,hm⟩
    have HM4:=ke hm
    clear hm
    go_wp2_with fail
    refine (HX.out _ HM4.out.2).mono ?_
    clear HX
    rintro e w6 ⟨rfl,hm⟩
    have hsz:w.heap.size≤wr.heap.size:=HM3.out.1.size
    have hsz4:=HM4.out.1.size
    have hsz6:=hm.1.size
    have hba:Below w6.heap.size w6 (w6.alloc (.cells #[.string q1,.string q2] 139)):=(Below.refl _ _).alloc (Nat.le_refl _) _
    have HY:=ke (OwnP.one (x:=(q1,q2)) hz (show wr.heap.size≤w6.heap.size by omega))
    have HO5:=ke (((HO3.out.grown HM4.out.1 hlt).grown hm.1 hlt).below hba)
    have HMT:=ke (HM3.out.trans (HM4.out.trans (hm.trans (Mv.below hba hm.2))))
    have hwz:w.heap.size≤(w6.alloc (.cells #[.string q1,.string q2] 139)).heap.size:=Nat.le_trans (by omega) hba.size
    have HOL:=HO3.out.lt
    clear hm hba
    go_wp2_with (at_builtin;refine acw rfl (.tmp 14) (.tmp 18) 44 rfl w.heap.size 139 i0 _ 2 32 Tryz.underlying44 hi hz0 hz1 hz2 rfl (by decide) _ _ _ rfl HO5.out.1 wr.heap.size _ _ _ rfl HY.out.1 (pm_one _) ?c3 ?c4 hwz ?_)
    case c3=>unfold maxLen;simp;omega
    case c4=>simp;omega
    intro v2 w7 hown2 hgrow hat
    have HN:=ke (OwnP.app HO5.out HY.out hown2 (by simp;omega))
    have HM7:=ke (Mv.row HMT.out hgrow (fun k hk=>Nat.ne_of_gt (Nat.lt_of_lt_of_le hlt (HOL k hk).1)) (fun k hk=>(HOL k hk).1) hlt)
    clear hown2 hgrow hat
    go_wp2_with fail
    go_roundw
    case rel=>exact ⟨m,_,s2,HRUN.out,by omega,HN.out,by simp;omega,HM7.out⟩
    case measure=>rw [hla,abe HM7.out.2];omega
theorem params_any (W0 w:World) (c:Nat) (s:RS) (h:Rd W0 c s w):Calls Tryz.prog 160 #[.pointer (some ⟨c,0,none⟩)] w (PsC W0 c w (parP s)):=by
 obtain ⟨q,hq⟩:∃ q,lstP (s.need aah)=q:=⟨_,rfl⟩
 have hR:parP s=(q.1,q.2.need aa6):=by rw [← hq];rfl
 have hlt:=h.lt
 have hle0:=h.le
 have HN0:Hid (∀ w',Rd W0 c (s) w'→Calls Tryz.prog 71 #[.pointer (some ⟨c,0,none⟩),.string aah] w' fun e w''=>e=.returned (.tuple #[])∧Mv W0 c (RS.need (s) aah) w' w''):=by
  show ∀ w',_
  intro w' h';exact abd W0 w' c _ aah h'
 have HX:Hid (∀ w',Rd W0 c (s.need aah) w'→Calls Tryz.prog 181 #[.pointer (some ⟨c,0,none⟩),.func (.func 182) #[] #[]] w' (PsC W0 c w' q)):=by
  show ∀ w',_
  intro w' h';have:=listedP_any param_any W0 w' c _ h';rw [hq] at this;exact this
 have HN:Hid (∀ w',Rd W0 c (q.2) w'→Calls Tryz.prog 71 #[.pointer (some ⟨c,0,none⟩),.string aa6] w' fun e w''=>e=.returned (.tuple #[])∧Mv W0 c (RS.need (q.2) aa6) w' w''):=by
  show ∀ w',_
  intro w' h';exact abd W0 w' c _ aa6 h'
 rw [hR]
 have HM:=ke (Mv.refl h)
 clear hR hq h
 go_enter Tryz.func160,Tryz.ntmps160
 go_wp2_with fail
 refine (HN0.out _ HM.out.2).mono ?_
 clear HN0
 rintro e w1 ⟨rfl,hm⟩
 replace HM:=ke (HM.out.trans hm)
 have hs1:=hm.1.size
 clear hm
 go_wp2_with fail
 refine (HX.out _ HM.out.2).mono ?_
 clear HX
 rintro e w2 ⟨v,rfl,ho,hm⟩
 obtain ⟨A,cap,rfl⟩:=ho.form
 have HO:=ke (ho.mono (show w.heap.size≤_ by omega))
 replace HM:=ke (HM.out.trans hm)
 clear hm ho
 go_wp2_with fail
 refine (HN.out _ HM.out.2).mono ?_
 clear HN
 rintro e w3 ⟨rfl,hm⟩
 replace HM:=ke (HM.out.trans hm)
 replace HO:=ke (HO.out.grown hm.1 hlt)
 clear hm
 go_wp2_with fail
 go_ret
 exact ⟨_,rfl,HO.out,HM.out⟩
end
section
open Go.RowKit
def MtF (y:Nd):Prop:=∃ (st ct:Bool) (ty nm:ByteArray) (A1 A2:Option Addr) (c1 c2:Nat) (ps:List Pm) (l:List Nd),y=.mt st ct ty nm (.slice A1 ps.length c1) ps (.slice A2 l.length c2) l
def FdF (y:Nd):Prop:=∃ (st:Bool) (ty nm:ByteArray) (A1:Option Addr) (c1:Nat) (l:List Nd),y=.fd st ty nm (.slice A1 l.length c1) l
def MtC (W0:World) (c:Nat) (w:World) (r:Nd×RS) (e:Ending) (w':World):Prop:=∃ y,e=.returned (.agg (aab y).toArray)∧MtF y∧NK .mt w.heap.size none w' r.1 y∧Mv W0 c r.2 w w'
def FdC (W0:World) (c:Nat) (w:World) (r:Nd×RS) (e:Ending) (w':World):Prop:=∃ y,e=.returned (.agg (aab y).toArray)∧FdF y∧NK .fd w.heap.size none w' r.1 y∧Mv W0 c r.2 w w'
theorem ah1 (HE:abw) (HAR:adi) (W0 w:World) (c:Nat) (s:RS) (st:Bool) (ty nm:ByteArray) (hty:ty.size≤maxLen) (hnm:nm.size≤maxLen) (hv:Vars W0) (h:Rd W0 c s w):Calls Tryz.prog 121 #[.pointer (some ⟨c,0,none⟩),.agg #[.bool st,.bool false,.string ty,.string nm,.slice none 0 0,.slice none 0 0]] w (MtC W0 c w (metM st ty nm s)):=by
 obtain ⟨q,hq⟩:∃ q,parP s=q:=⟨_,rfl⟩
 obtain ⟨a,ha⟩:∃ a,bd false q.2=a:=⟨_,rfl⟩
 have HRE:Hid (metM st ty nm s=(mkM st false ty nm q.1 a.1,a.2)):=ke (by simp only [metM,hq,ha])
 obtain ⟨RR,hRR⟩:∃ RR,metM st ty nm s=RR:=⟨_,rfl⟩
 rw [hRR] at HRE ⊢
 have hlt:=h.lt
 have hle0:=h.le
 obtain ⟨W1,hW1⟩:∃ W1,(w.alloc (.cells #[.bool st,.bool false,.string ty,.string nm,.slice none 0 0,.slice none 0 0] 47)).alloc (.cells #[.bool false,.bool false,.string ⟨#[]⟩,.string ⟨#[]⟩,.slice none 0 0,.slice none 0 0] 47)=W1:=⟨_,rfl⟩
 have hb:Below w.heap.size w W1:=by rw [← hW1];exact ((Below.refl _ w).alloc (Nat.le_refl _) _).alloc (by simp) _
 have hx1:Bx W1 w.heap.size #[.bool st,.bool false,.string ty,.string nm,.slice none 0 0,.slice none 0 0] 47:=by rw [← hW1];exact (Bx.new _ _ _).next ((Below.refl _ _).alloc (Nat.le_refl _) _)
 have hx2:Bx W1 (w.heap.size+1) #[.bool false,.bool false,.string ⟨#[]⟩,.string ⟨#[]⟩,.slice none 0 0,.slice none 0 0] 47:=by
  rw [← hW1]
  have:=Bx.new (w.alloc (.cells #[.bool st,.bool false,.string ty,.string nm,.slice none 0 0,.slice none 0 0] 47)) #[.bool false,.bool false,.string ⟨#[]⟩,.string ⟨#[]⟩,.slice none 0 0,.slice none 0 0] 47
  simpa using this
 have hz:W1.heap.size=w.heap.size+2:=by rw [← hW1];simp
 have HM:=ke (Mv.below hb h)
 have HB:=ke hx2
 have HL:=ke hx1
 clear hb hx1 hx2
 have HC:Hid (∀ w',Rd W0 c s w'→Calls Tryz.prog 160 #[.pointer (some ⟨c,0,none⟩)] w' (PsC W0 c w' q)):=by
  show ∀ w',_
  intro w' h';have:=params_any W0 w' c _ h';rw [hq] at this;exact this
 have HA:Hid (∀ w',Rd W0 c (q.2) w'→Calls Tryz.prog 162 #[.pointer (some ⟨c,0,none⟩)] w' (BlC W0 c w' a)):=by
  show ∀ w',_
  intro w' h';have:=bk_any HE HAR W0 w' c _ hv h';rw [ha] at this;exact this
 clear hRR hq ha h hv HE HAR
 go_enter Tryz.func121,Tryz.ntmps121
 go_wp2_with fail
 refine (HC.out _ HM.out.2).mono ?_
 clear HC hW1
 rintro e w2 ⟨v,rfl,ho,hm⟩
 obtain ⟨A1,c1,rfl⟩:=ho.form
 have HP:=ke (ho.fk.mono (show w.heap.size+2≤_ by omega))
 replace HM:=ke (HM.out.trans hm)
 replace HB:=ke (Bx.grown HB.out hm.1 (by omega))
 replace HL:=ke (Bx.grown HL.out hm.1 (by omega))
 have hs2:=hm.1.size
 clear hm ho
 go_wp2_with fail
 refine (HA.out _ HM.out.2).mono ?_
 clear HA
 rintro e w3 ⟨v2,ys,rfl,ho,hq2,hm⟩
 obtain ⟨A2,c2,rfl⟩:=agz ho
 have HF:=ke (ho.mono (show w.heap.size+2≤_ by omega))
 have HQ:=ke hq2
 replace HM:=ke (HM.out.trans hm)
 replace HB:=ke (Bx.grown HB.out hm.1 (by omega))
 replace HL:=ke (Bx.grown HL.out hm.1 (by omega))
 have hs3:=hm.1.size
 replace HP:=ke (HP.out.grown hm.1 (by omega))
 clear hm ho hq2
 obtain ⟨x0,x1,x2,x3,x4,x5⟩:=HL.out.all_6
 have gx4:=HL.out.fro 4;have gx5:=HL.out.fro 5
 obtain ⟨W4,hW4⟩:∃ W,(w3.setCell ⟨w.heap.size,4,none⟩ (.slice A1 q.1.length c1)).setCell ⟨w.heap.size,5,none⟩ (.slice A2 ys.length c2)=W:=⟨_,rfl⟩
 have hg:w3.grownBy W4 (some w.heap.size):=by rw [← hW4];exact (aac _ _ _ _).trans (aac _ _ _ _)
 have hl2:Bx W4 w.heap.size #[.bool st,.bool false,.string ty,.string nm,.slice A1 q.1.length c1,.slice A2 ys.length c2] 47:=by
  rw [← hW4]
  have:=(HL.out.set 4 (.slice A1 q.1.length c1)).set 5 (.slice A2 ys.length c2)
  simpa using this
 replace HM:=ke (Mv.over (Below.refl _ _) HM.out hg (Nat.le_refl _) hlt)
 replace HB:=ke (Bx.grown HB.out hg (by omega))
 replace HP:=ke (HP.out.grown hg (by omega))
 replace HF:=ke (HF.out.grown hg (by omega))
 have hs4:=hg.size
 obtain ⟨y0,y1,y2,y3,y4,y5⟩:=hl2.all_6
 clear hl2 hg HL
 obtain ⟨r0,r1,r2,r3,r4,r5⟩:=HB.out.all_6
 have g0:=HB.out.fro 0;have g1:=HB.out.fro 1;have g2:=HB.out.fro 2;have g3:=HB.out.fro 3;have g4:=HB.out.fro 4;have g5:=HB.out.fro 5
 have HG:=ke (grown_6 W4 (w.heap.size+1) (.bool st) (.bool false) (.string ty) (.string nm) (.slice A1 q.1.length c1) (.slice A2 ys.length c2))
 go_wp2_with fail
 obtain ⟨z0,z1,z2,z3,z4,z5⟩:=(HB.out.to_6 (.bool st) (.bool false) (.string ty) (.string nm) (.slice A1 q.1.length c1) (.slice A2 ys.length c2)).all_6
 (try simp only [Exit.inBlock,Exit.then])
 refine bodyPost_ret (v:=.agg #[.bool st,.bool false,.string ty,.string nm,.slice A1 q.1.length c1,.slice A2 ys.length c2]) (by simp [results,Tryz.results121,go_sem,z0,z1,z2,z3,z4,z5]) rfl ?_
 rw [HRE.out]
 exact ⟨.mt st false ty nm (.slice A1 q.1.length c1) q.1 (.slice A2 ys.length c2) ys,rfl,⟨_,_,_,_,_,_,_,_,_,_,rfl⟩,((mt_node (B:=w.heap.size+2) ⟨hty,hnm⟩ HP.out HF.out HQ.out).grown HG.out (.inl (by omega))).mono (by omega),Mv.over (Below.refl _ _) HM.out HG.out (by omega) hlt⟩
theorem ctor_any (HE:abw) (HAR:adi) (W0 w:World) (c:Nat) (s:RS) (hv:Vars W0) (h:Rd W0 c s w) (hne:s.ws≠[]):Calls Tryz.prog 120 #[.pointer (some ⟨c,0,none⟩)] w (MtC W0 c w (ctoM s)):=by
 obtain ⟨q,hq⟩:∃ q,parP s.skip=q:=⟨_,rfl⟩
 obtain ⟨a,ha⟩:∃ a,bd true q.2=a:=⟨_,rfl⟩
 have HRE:Hid (ctoM s=(mkM false true E0 E0 q.1 a.1,a.2)):=ke (by simp only [ctoM,hq,ha])
 obtain ⟨RR,hRR⟩:∃ RR,ctoM s=RR:=⟨_,rfl⟩
 rw [hRR] at HRE ⊢
 have hlt:=h.lt
 have hle0:=h.le
 obtain ⟨W1,hW1⟩:∃ W1,w.alloc (.cells #[.bool false,.bool false,.string ⟨#[]⟩,.string ⟨#[]⟩,.slice none 0 0,.slice none 0 0] 47)=W1:=⟨_,rfl⟩
 have hb:Below w.heap.size w W1:=by rw [← hW1];exact (Below.refl _ w).alloc (Nat.le_refl _) _
 have hx:Bx W1 w.heap.size #[.bool false,.bool false,.string ⟨#[]⟩,.string ⟨#[]⟩,.slice none 0 0,.slice none 0 0] 47:=by rw [← hW1];exact Bx.new _ _ _
 have hz:W1.heap.size=w.heap.size+1:=by rw [← hW1];simp
 have HM:=ke (Mv.below hb h)
 have HB:=ke hx
 clear hb hx
 have HT:=ke (afq W0 W1 c s HM.out.2 hne)
 have HC:Hid (∀ w',Rd W0 c s.skip w'→Calls Tryz.prog 160 #[.pointer (some ⟨c,0,none⟩)] w' (PsC W0 c w' q)):=by
  show ∀ w',_
  intro w' h';have:=params_any W0 w' c _ h';rw [hq] at this;exact this
 have HA:Hid (∀ w',Rd W0 c q.2 w'→Calls Tryz.prog 161 #[.pointer (some ⟨c,0,none⟩),.bool true] w' (BlC W0 c w' a)):=by
  show ∀ w',_
  intro w' h';have:=bd_any HE HAR W0 w' c _ true hv h';rw [ha] at this;exact this
 clear hRR hq ha h hv hne HE HAR
 go_enter Tryz.func120,Tryz.ntmps120
 go_wp2_with fail
 refine HT.out.mono ?_
 clear HT hW1
 rintro e w2 ⟨rfl,hm⟩
 replace HM:=ke (HM.out.trans hm)
 replace HB:=ke (Bx.grown HB.out hm.1 (by omega))
 have hs2:=hm.1.size
 clear hm
 go_wp2_with fail
 refine (HC.out _ HM.out.2).mono ?_
 clear HC
 rintro e w3 ⟨v,rfl,ho,hm⟩
 obtain ⟨A1,c1,rfl⟩:=ho.form
 have HP:=ke (ho.fk.mono (show w.heap.size+1≤_ by omega))
 replace HM:=ke (HM.out.trans hm)
 replace HB:=ke (Bx.grown HB.out hm.1 (by omega))
 have hs3:=hm.1.size
 clear hm ho
 go_wp2_with fail
 refine (HA.out _ HM.out.2).mono ?_
 clear HA
 rintro e w4 ⟨v2,ys,rfl,ho,hq2,hm⟩
 obtain ⟨A2,c2,rfl⟩:=agz ho
 have HF:=ke (ho.mono (show w.heap.size+1≤_ by omega))
 have HQ:=ke hq2
 replace HM:=ke (HM.out.trans hm)
 replace HB:=ke (Bx.grown HB.out hm.1 (by omega))
 have hs4:=hm.1.size
 replace HP:=ke (HP.out.grown hm.1 (by omega))
 clear hm ho hq2
 obtain ⟨r0,r1,r2,r3,r4,r5⟩:=HB.out.all_6
 have g0:=HB.out.fro 0;have g1:=HB.out.fro 1;have g2:=HB.out.fro 2;have g3:=HB.out.fro 3;have g4:=HB.out.fro 4;have g5:=HB.out.fro 5
 have HG:=ke (grown_6 w4 w.heap.size (.bool false) (.bool true) (.string ⟨#[]⟩) (.string ⟨#[]⟩) (.slice A1 q.1.length c1) (.slice A2 ys.length c2))
 go_wp2_with fail
 obtain ⟨z0,z1,z2,z3,z4,z5⟩:=(HB.out.to_6 (.bool false) (.bool true) (.string ⟨#[]⟩) (.string ⟨#[]⟩) (.slice A1 q.1.length c1) (.slice A2 ys.length c2)).all_6
 (try simp only [Exit.inBlock,Exit.then])
 refine bodyPost_ret (v:=.agg #[.bool false,.bool true,.string ⟨#[]⟩,.string ⟨#[]⟩,.slice A1 q.1.length c1,.slice A2 ys.length c2]) (by simp [results,Tryz.results120,go_sem,z0,z1,z2,z3,z4,z5]) rfl ?_
 rw [HRE.out]
 exact ⟨.mt false true ⟨#[]⟩ ⟨#[]⟩ (.slice A1 q.1.length c1) q.1 (.slice A2 ys.length c2) ys,rfl,⟨_,_,_,_,_,_,_,_,_,_,rfl⟩,((mt_node (B:=w.heap.size+1) ⟨Nat.zero_le _,Nat.zero_le _⟩ HP.out HF.out HQ.out).grown HG.out (.inl (by omega))).mono (by omega),Mv.over (Below.refl _ _) HM.out HG.out (Nat.le_refl _) hlt⟩
theorem field_0 (HE:abw) (W0 w:World) (c:Nat) (s:RS) (st:Bool) (ty nm:ByteArray) (hty:ty.size≤maxLen) (hnm:nm.size≤maxLen) (hv:Vars W0) (h:Rd W0 c s w) (hel:s.sees 0 sEq=false):Calls Tryz.prog 124 #[.pointer (some ⟨c,0,none⟩),.agg #[.bool st,.string ty,.string nm,.slice none 0 0]] w (FdC W0 c w (fldM st ty nm s)):=by
 have HRE:Hid (fldM st ty nm s=(mkF st ty nm [],s.need abx)):=ke (by simp only [fldM,hel];simp)
 obtain ⟨RR,hRR⟩:∃ RR,fldM st ty nm s=RR:=⟨_,rfl⟩
 rw [hRR] at HRE ⊢
 have hlt:=h.lt
 have hle0:=h.le
 obtain ⟨W1,hW1⟩:∃ W1,(w.alloc (.cells #[.bool st,.string ty,.string nm,.slice none 0 0] 102)).alloc (.cells #[.bool false,.string ⟨#[]⟩,.string ⟨#[]⟩,.slice none 0 0] 102)=W1:=⟨_,rfl⟩
 have hb:Below w.heap.size w W1:=by rw [← hW1];exact ((Below.refl _ w).alloc (Nat.le_refl _) _).alloc (by simp) _
 have hx1:Bx W1 w.heap.size #[.bool st,.string ty,.string nm,.slice none 0 0] 102:=by rw [← hW1];exact (Bx.new _ _ _).next ((Below.refl _ _).alloc (Nat.le_refl _) _)
 have hx2:Bx W1 (w.heap.size+1) #[.bool false,.string ⟨#[]⟩,.string ⟨#[]⟩,.slice none 0 0] 102:=by
  rw [← hW1]
  have:=Bx.new (w.alloc (.cells #[.bool st,.string ty,.string nm,.slice none 0 0] 102)) #[.bool false,.string ⟨#[]⟩,.string ⟨#[]⟩,.slice none 0 0] 102
  simpa using this
 have hz:W1.heap.size=w.heap.size+2:=by rw [← hW1];simp
 have HM:=ke (Mv.below hb h)
 have HB:=ke hx2
 have HL:=ke hx1
 clear hb hx1 hx2
 have HT:=ke (aaa W0 W1 c s sEq HM.out.2 hel)
 have HN:Hid (∀ w',Rd W0 c (s) w'→Calls Tryz.prog 71 #[.pointer (some ⟨c,0,none⟩),.string abx] w' fun e w''=>e=.returned (.tuple #[])∧Mv W0 c (RS.need (s) abx) w' w''):=by
  show ∀ w',_
  intro w' h';exact abd W0 w' c _ abx h'
 clear hRR h hv hel HE
 go_enter Tryz.func124,Tryz.ntmps124
 go_wp2_with fail
 refine HT.out.mono ?_
 clear HT
 rintro e w2 ⟨rfl,rfl⟩
 go_wp2_with fail
 refine (HN.out _ HM.out.2).mono ?_
 clear HN hW1
 rintro e w3 ⟨rfl,hm⟩
 replace HM:=ke (HM.out.trans hm)
 replace HB:=ke (Bx.grown HB.out hm.1 (by omega))
 replace HL:=ke (Bx.grown HL.out hm.1 (by omega))
 have hs3:=hm.1.size
 clear hm
 obtain ⟨y0,y1,y2,y3⟩:=HL.out.all_4
 obtain ⟨r0,r1,r2,r3⟩:=HB.out.all_4
 have g0:=HB.out.fro 0;have g1:=HB.out.fro 1;have g2:=HB.out.fro 2;have g3:=HB.out.fro 3
 have HG:=ke (ahi w3 (w.heap.size+1) (.bool st) (.string ty) (.string nm) (.slice none 0 0))
 go_wp2_with fail
 obtain ⟨z0,z1,z2,z3⟩:=(HB.out.to_4 (.bool st) (.string ty) (.string nm) (.slice none 0 0)).all_4
 (try simp only [Exit.inBlock,Exit.then])
 refine bodyPost_ret (v:=.agg #[.bool st,.string ty,.string nm,.slice none 0 0]) (by simp [results,Tryz.results124,go_sem,z0,z1,z2,z3]) rfl ?_
 rw [HRE.out]
 exact ⟨.fd st ty nm (.slice none 0 0) [],rfl,⟨_,_,_,_,_,[],rfl⟩,((fd_node (B:=w.heap.size+2) ⟨hty,hnm⟩ (FkL.nil _ _ _) rfl).grown HG.out (.inl (by omega))).mono (by omega),Mv.over (Below.refl _ _) HM.out HG.out (by omega) hlt⟩
theorem field_1 (HE:abw) (W0 w:World) (c:Nat) (s:RS) (st:Bool) (ty nm:ByteArray) (hty:ty.size≤maxLen) (hnm:nm.size≤maxLen) (hv:Vars W0) (h:Rd W0 c s w) (hel:s.sees 0 sEq=true):Calls Tryz.prog 124 #[.pointer (some ⟨c,0,none⟩),.agg #[.bool st,.string ty,.string nm,.slice none 0 0]] w (FdC W0 c w (fldM st ty nm s)):=by
 obtain ⟨q,hq⟩:∃ q,ex s.skip=q:=⟨_,rfl⟩
 have HRE:Hid (fldM st ty nm s=(mkF st ty nm [hdE q.1],q.2.need abx)):=ke (by simp only [fldM,hel,if_true,hq])
 obtain ⟨RR,hRR⟩:∃ RR,fldM st ty nm s=RR:=⟨_,rfl⟩
 rw [hRR] at HRE ⊢
 have hlt:=h.lt
 have hle0:=h.le
 obtain ⟨W1,hW1⟩:∃ W1,(w.alloc (.cells #[.bool st,.string ty,.string nm,.slice none 0 0] 102)).alloc (.cells #[.bool false,.string ⟨#[]⟩,.string ⟨#[]⟩,.slice none 0 0] 102)=W1:=⟨_,rfl⟩
 have hb:Below w.heap.size w W1:=by rw [← hW1];exact ((Below.refl _ w).alloc (Nat.le_refl _) _).alloc (by simp) _
 have hx1:Bx W1 w.heap.size #[.bool st,.string ty,.string nm,.slice none 0 0] 102:=by rw [← hW1];exact (Bx.new _ _ _).next ((Below.refl _ _).alloc (Nat.le_refl _) _)
 have hx2:Bx W1 (w.heap.size+1) #[.bool false,.string ⟨#[]⟩,.string ⟨#[]⟩,.slice none 0 0] 102:=by
  rw [← hW1]
  have:=Bx.new (w.alloc (.cells #[.bool st,.string ty,.string nm,.slice none 0 0] 102)) #[.bool false,.string ⟨#[]⟩,.string ⟨#[]⟩,.slice none 0 0] 102
  simpa using this
 have hz:W1.heap.size=w.heap.size+2:=by rw [← hW1];simp
 have HM:=ke (Mv.below hb h)
 have HB:=ke hx2
 have HL:=ke hx1
 clear hb hx1 hx2
 have HT:=ke (aa3 W0 W1 c s sEq HM.out.2 hel)
 have HX:Hid (∀ w',Rd W0 c (s.skip) w'→Calls Tryz.prog 31 #[.pointer (some ⟨c,0,none⟩)] w' (ExC W0 c w' q)):=by
  show ∀ w',_
  intro w' h';have:=HE W0 w' c _ hv h';rw [hq] at this;exact this
 have HN:Hid (∀ w',Rd W0 c (q.2) w'→Calls Tryz.prog 71 #[.pointer (some ⟨c,0,none⟩),.string abx] w' fun e w''=>e=.returned (.tuple #[])∧Mv W0 c (RS.need (q.2) abx) w' w''):=by
  show ∀ w',_
  intro w' h';exact abd W0 w' c _ abx h'
 clear hRR hq h hv hel HE
 go_enter Tryz.func124,Tryz.ntmps124
 go_wp2_with fail
 refine HT.out.mono ?_
 clear HT hW1
 rintro e w2 ⟨rfl,hm⟩
 replace HM:=ke (HM.out.trans hm)
 replace HB:=ke (Bx.grown HB.out hm.1 (by omega))
 replace HL:=ke (Bx.grown HL.out hm.1 (by omega))
 have hs2:=hm.1.size
 clear hm
 go_wp2_with fail
 refine (HX.out _ HM.out.2).mono ?_
 clear HX
 rintro e w3 ⟨y,rfl,hk,hm⟩
 replace HM:=ke (HM.out.trans hm)
 replace HB:=ke (Bx.grown HB.out hm.1 (by omega))
 replace HL:=ke (Bx.grown HL.out hm.1 (by omega))
 have hs3:=hm.1.size
 have HK:=ke (hk.mono (show w.heap.size+2≤_ by omega))
 obtain ⟨k,m,tx,nm',ty',A,cap,l,rfl,_,_,_⟩:=hk
 clear hm
 obtain ⟨W4,hW4⟩:∃ W,(w3.alloc (.cells #[.int .i64 k,.int .i32 m,.string tx,.string nm',.string ty',.slice A l.length cap,.string ⟨#[]⟩,.int .i64 0] 35))=W:=⟨_,rfl⟩
 have hb:Below w3.heap.size w3 W4:=by rw [← hW4];exact (Below.refl _ _).alloc (Nat.le_refl _) _
 have HY:Hid (OwnE (w.heap.size+2) W4 (.slice (some ⟨w3.heap.size,0,none⟩) 1 1) [.ex k m tx nm' ty' (.slice A l.length cap) l ⟨#[]⟩ 0]):=ke (by have:=OwnE.one HK.out (show w.heap.size+2≤w3.heap.size by omega);simp only [aab] at this;rw [hW4] at this;exact this)
 have HQ:=ke (acp (ExK.nk HK.out).2.2)
 replace HM:=ke (HM.out.trans (Mv.below hb HM.out.2))
 replace HB:=ke (HB.out.next hb)
 replace HL:=ke (HL.out.next hb)
 have hs4:=hb.size
 obtain ⟨x0,x1,x2,x3⟩:=HL.out.all_4
 have gx3:=HL.out.fro 3
 obtain ⟨W5,hW5⟩:∃ W,W4.setCell ⟨w.heap.size,3,none⟩ (.slice (some ⟨w3.heap.size,0,none⟩) 1 1)=W:=⟨_,rfl⟩
 have hg:W4.grownBy W5 (some w.heap.size):=by rw [← hW5];exact aac _ _ _ _
 have hl2:Bx W5 w.heap.size #[.bool st,.string ty,.string nm,.slice (some ⟨w3.heap.size,0,none⟩) 1 1] 102:=by
  rw [← hW5]
  have:=HL.out.set 3 (.slice (some ⟨w3.heap.size,0,none⟩) 1 1)
  simpa using this
 replace HM:=ke (Mv.over (Below.refl _ _) HM.out hg (Nat.le_refl _) hlt)
 replace HB:=ke (Bx.grown HB.out hg (by omega))
 have HF:=ke (HY.out.own.fk.grown hg (by omega))
 replace HL:=ke hl2
 have hs5:=hg.size
 clear hl2 hg hb HY
 simp only [aab]
 go_wp2_with fail
 refine (HN.out _ HM.out.2).mono ?_
 clear HN hW4 hW5 x0 x1 x2 x3 gx3
 rintro e w6 ⟨rfl,hm⟩
 replace HM:=ke (HM.out.trans hm)
 replace HB:=ke (Bx.grown HB.out hm.1 (by omega))
 replace HL:=ke (Bx.grown HL.out hm.1 (by omega))
 have hs6:=hm.1.size
 replace HF:=ke (HF.out.grown hm.1 (by omega))
 clear hm
 obtain ⟨y0,y1,y2,y3⟩:=HL.out.all_4
 obtain ⟨r0,r1,r2,r3⟩:=HB.out.all_4
 have g0:=HB.out.fro 0;have g1:=HB.out.fro 1;have g2:=HB.out.fro 2;have g3:=HB.out.fro 3
 have HG:=ke (ahi w6 (w.heap.size+1) (.bool st) (.string ty) (.string nm) (.slice (some ⟨w3.heap.size,0,none⟩) 1 1))
 go_wp2_with fail
 obtain ⟨z0,z1,z2,z3⟩:=(HB.out.to_4 (.bool st) (.string ty) (.string nm) (.slice (some ⟨w3.heap.size,0,none⟩) 1 1)).all_4
 (try simp only [Exit.inBlock,Exit.then])
 refine bodyPost_ret (v:=.agg #[.bool st,.string ty,.string nm,.slice (some ⟨w3.heap.size,0,none⟩) 1 1]) (by simp [results,Tryz.results124,go_sem,z0,z1,z2,z3]) rfl ?_
 rw [HRE.out]
 exact ⟨.fd st ty nm (.slice (some ⟨w3.heap.size,0,none⟩) 1 1) [.ex k m tx nm' ty' (.slice A l.length cap) l ⟨#[]⟩ 0],rfl,⟨_,_,_,_,_,[.ex k m tx nm' ty' (.slice A l.length cap) l ⟨#[]⟩ 0],rfl⟩,((fd_node (B:=w.heap.size+2) ⟨hty,hnm⟩ HF.out HQ.out).grown HG.out (.inl (by omega))).mono (by omega),Mv.over (Below.refl _ _) HM.out HG.out (by omega) hlt⟩
theorem field_any (HE:abw) (W0 w:World) (c:Nat) (s:RS) (st:Bool) (ty nm:ByteArray) (hty:ty.size≤maxLen) (hnm:nm.size≤maxLen) (hv:Vars W0) (h:Rd W0 c s w):Calls Tryz.prog 124 #[.pointer (some ⟨c,0,none⟩),.agg #[.bool st,.string ty,.string nm,.slice none 0 0]] w (FdC W0 c w (fldM st ty nm s)):=by
 cases hel:s.sees 0 sEq with
 | false=>exact field_0 HE W0 w c s st ty nm hty hnm hv h hel
 | true=>exact field_1 HE W0 w c s st ty nm hty hnm hv h hel
theorem as_cl2 (l:List Pl) (k:Nat):∀ w,(Instr.typeAssert (aar l k) 84 157 true).run Tryz.prog w=.ok (.tuple #[.string ((clP l[k]?).getD ⟨#[]⟩),.bool (clP l[k]?).isSome]) w:=by
 cases hx:l[k]? with
 | none=>exact fun w=>by simp only [aar,hx,clP];exact is_no_cl w
 | some x =>
  obtain ⟨q,a⟩:=x
  cases q with
  | fx t=>exact fun w=>by simp only [aar,hx,clP,Pr.V];exact is_fx_cl _ w
  | nm t=>exact fun w=>by simp only [aar,hx,clP,Pr.V];exact is_nm_cl _ w
  | cl t=>exact fun w=>by simp only [aar,hx,clP,Pr.V];exact is_cl_cl _ w
  | nu t=>exact fun w=>by simp only [aar,hx,clP,Pr.V];exact is_nu_cl _ w
  | qu t=>exact fun w=>by simp only [aar,hx,clP,Pr.V];exact is_qu_cl _ w
theorem starts_none (W0 w:World) (c:Nat) (s:RS) (own:ByteArray) (h:Rd W0 c s w) (h0:clP s.ws[0]?=none):Calls Tryz.prog 119 #[.pointer (some ⟨c,0,none⟩),.string own] w fun e w'=>e=.returned (.bool (s.ctorB own))∧w=w':=by
 have HE:=ke (show s.ctorB own=false by simp [RS.ctorB,h0])
 have hasf:=as_cl2 s.ws 0
 rw [h0] at hasf
 simp only [Option.getD_none,Option.isSome_none] at hasf
 have HA:=ke (abl W0 w c 0 s h (by omega))
 obtain ⟨u0,hu0⟩:∃ u,aar s.ws 0=u:=⟨_,rfl⟩
 rw [hu0] at hasf HA
 clear h h0 hu0
 go_enter Tryz.func119,Tryz.ntmps119
 go_wp2_with fail
 refine HA.out.mono ?_
 clear HA
 rintro e w1 ⟨rfl,rfl⟩
 go_wp2_with fail
 go_ret
 exact ⟨ag6 HE.out,rfl⟩
theorem starts_ne (W0 w:World) (c:Nat) (s:RS) (own:ByteArray) (h:Rd W0 c s w) (t:ByteArray) (h0:clP s.ws[0]?=some t) (h1:(t.toList == own.toList)=false):Calls Tryz.prog 119 #[.pointer (some ⟨c,0,none⟩),.string own] w fun e w'=>e=.returned (.bool (s.ctorB own))∧w=w':=by
 have HE:=ke (show s.ctorB own=false by simp [RS.ctorB,h0,h1])
 have hasf:=as_cl2 s.ws 0
 rw [h0] at hasf
 simp only [Option.getD_some,Option.isSome_some] at hasf
 have HA:=ke (abl W0 w c 0 s h (by omega))
 obtain ⟨u0,hu0⟩:∃ u,aar s.ws 0=u:=⟨_,rfl⟩
 rw [hu0] at hasf HA
 clear h h0 hu0
 go_enter Tryz.func119,Tryz.ntmps119
 go_wp2_with fail
 refine HA.out.mono ?_
 clear HA
 rintro e w1 ⟨rfl,rfl⟩
 go_wp2_with fail
 go_ret
 exact ⟨ag6 HE.out,rfl⟩
theorem starts_no (W0 w:World) (c:Nat) (s:RS) (own:ByteArray) (h:Rd W0 c s w) (t:ByteArray) (h0:clP s.ws[0]?=some t) (h1:(t.toList == own.toList)=true) (h2:s.sees 1 aah=false):Calls Tryz.prog 119 #[.pointer (some ⟨c,0,none⟩),.string own] w fun e w'=>e=.returned (.bool (s.ctorB own))∧w=w':=by
 have HE:=ke (show s.ctorB own=false by simp [RS.ctorB,h0,h1,h2])
 have hasf:=as_cl2 s.ws 0
 rw [h0] at hasf
 simp only [Option.getD_some,Option.isSome_some] at hasf
 have HA:=ke (abl W0 w c 0 s h (by omega))
 obtain ⟨u0,hu0⟩:∃ u,aar s.ws 0=u:=⟨_,rfl⟩
 rw [hu0] at hasf HA
 have T8:=ke (show Calls Tryz.prog 159 #[.pointer (some ⟨c,0,none⟩),.int .i64 1,.string aah] w (fun e w'=>e=.returned (.bool false)∧w=w') from by have:=af9 W0 w c 1 s aah h (by omega);rw [h2] at this;exact this)
 clear h h0 hu0 h2
 go_enter Tryz.func119,Tryz.ntmps119
 go_wp2_with fail
 refine HA.out.mono ?_
 clear HA
 rintro e w1 ⟨rfl,rfl⟩
 go_wp2_with fail
 refine T8.out.mono ?_
 clear T8
 rintro e w2 ⟨rfl,rfl⟩
 go_wp2_with fail
 go_ret
 exact ⟨ag6 HE.out,rfl⟩
theorem starts_yes (W0 w:World) (c:Nat) (s:RS) (own:ByteArray) (h:Rd W0 c s w) (t:ByteArray) (h0:clP s.ws[0]?=some t) (h1:(t.toList == own.toList)=true) (h2:s.sees 1 aah=true):Calls Tryz.prog 119 #[.pointer (some ⟨c,0,none⟩),.string own] w fun e w'=>e=.returned (.bool (s.ctorB own))∧w=w':=by
 have HE:=ke (show s.ctorB own=true by simp [RS.ctorB,h0,h1,h2])
 have hasf:=as_cl2 s.ws 0
 rw [h0] at hasf
 simp only [Option.getD_some,Option.isSome_some] at hasf
 have HA:=ke (abl W0 w c 0 s h (by omega))
 obtain ⟨u0,hu0⟩:∃ u,aar s.ws 0=u:=⟨_,rfl⟩
 rw [hu0] at hasf HA
 have T8:=ke (show Calls Tryz.prog 159 #[.pointer (some ⟨c,0,none⟩),.int .i64 1,.string aah] w (fun e w'=>e=.returned (.bool true)∧w=w') from by have:=af9 W0 w c 1 s aah h (by omega);rw [h2] at this;exact this)
 clear h h0 hu0 h2
 go_enter Tryz.func119,Tryz.ntmps119
 go_wp2_with fail
 refine HA.out.mono ?_
 clear HA
 rintro e w1 ⟨rfl,rfl⟩
 go_wp2_with fail
 refine T8.out.mono ?_
 clear T8
 rintro e w2 ⟨rfl,rfl⟩
 go_wp2_with fail
 go_ret
 exact ⟨ag6 HE.out,rfl⟩
theorem ahu (W0 w:World) (c:Nat) (s:RS) (own:ByteArray) (h:Rd W0 c s w):Calls Tryz.prog 119 #[.pointer (some ⟨c,0,none⟩),.string own] w fun e w'=>e=.returned (.bool (s.ctorB own))∧w=w':=by
 cases h0:clP s.ws[0]? with
 | none=>exact starts_none W0 w c s own h h0
 | some t =>
  cases h1:(t.toList == own.toList) with
  | false=>exact starts_ne W0 w c s own h t h0 h1
  | true =>
   cases h2:s.sees 1 aah with
   | false=>exact starts_no W0 w c s own h t h0 h1 h2
   | true=>exact starts_yes W0 w c s own h t h0 h1 h2
end
section
open Go.RowKit
def MbC (W0:World) (c:Nat) (w:World) (r:Nd×RS) (e:Ending) (w':World):Prop:=∃ y,Mv W0 c r.2 w w'∧((e=.returned (.iface 102 (.agg (aab y).toArray))∧FdF y∧NK .fd w.heap.size none w' r.1 y)∨(e=.returned (.iface 47 (.agg (aab y).toArray))∧MtF y∧NK .mt w.heap.size none w' r.1 y))
theorem member_ctor (HE:abw) (HAR:adi) (W0 w:World) (c:Nat) (s:RS) (own:ByteArray) (hv:Vars W0) (h:Rd W0 c s w) (h0:s.sees 0 aad=false) (h1:(s.take aad).ctorB own=true):Calls Tryz.prog 76 #[.pointer (some ⟨c,0,none⟩),.string own] w (MbC W0 c w (af0 own s)):=by
 have hne:(s.take aad).ws≠[]:=by
  intro e
  simp [RS.ctorB,e,clP] at h1
 have HRE:Hid (af0 own s=ctoM (s.take aad)):=ke (by simp only [af0,h0,h1,and_self,if_true])
 obtain ⟨RR,hRR⟩:∃ RR,af0 own s=RR:=⟨_,rfl⟩
 rw [hRR] at HRE ⊢
 have HT0:=ke (aca W0 w c s aad h)
 rw [h0] at HT0
 obtain ⟨s1,hs1⟩:∃ s1,s.take aad=s1:=⟨_,rfl⟩
 rw [hs1] at HT0
 rw [hs1] at HRE h1 hne
 have HC:Hid (∀ w',Rd W0 c (s1) w'→Calls Tryz.prog 119 #[.pointer (some ⟨c,0,none⟩),.string own] w' fun e w''=>e=.returned (.bool true)∧w'=w''):=by
  show ∀ w',_
  intro w' h';have:=ahu W0 w' c s1 own h';rw [h1] at this;exact this
 have HS:Hid (∀ w',Rd W0 c s1 w'→Calls Tryz.prog 120 #[.pointer (some ⟨c,0,none⟩)] w' (MtC W0 c w' RR)):=by
  show ∀ w',_
  intro w' h';have:=ctor_any HE HAR W0 w' c s1 hv h' hne;rw [HRE.out];exact this
 clear hRR hs1 h hv HE HAR h0 h1 hne
 go_enter Tryz.func76,Tryz.ntmps76
 go_wp2_with fail
 refine HT0.out.mono ?_
 clear HT0
 rintro e w1 ⟨rfl,hm⟩
 have HM:=ke hm
 clear hm
 go_wp2_with fail
 refine (HC.out _ HM.out.2).mono ?_
 clear HC
 rintro e w2 ⟨rfl,rfl⟩
 go_wp2_with fail
 refine (HS.out _ HM.out.2).mono ?_
 clear HS
 rintro e w9 ⟨y,rfl,⟨st,ct,ty,nm,A1,A2,c1,c2,ps,l,rfl⟩,hk,hm⟩
 have HK:=ke (hk.mono (show w.heap.size≤_ from HM.out.1.size))
 replace HM:=ke (HM.out.trans hm)
 clear hk hm
 simp only [aab]
 go_wp2_with fail
 go_ret
 exact ⟨_,HM.out,.inr ⟨rfl,⟨_,_,_,_,_,_,_,_,_,_,rfl⟩,HK.out⟩⟩
theorem ajv (HE:abw) (HAR:adi) (W0 w:World) (c:Nat) (s:RS) (own:ByteArray) (hv:Vars W0) (h:Rd W0 c s w) (h0:s.sees 0 aad=false) (h1:(s.take aad).ctorB own=false) (h2:(s.take aad).sees 0 adr=true):Calls Tryz.prog 76 #[.pointer (some ⟨c,0,none⟩),.string own] w (MbC W0 c w (af0 own s)):=by
 have HRE:Hid (af0 own s=metM false adr (s.take aad).skip.nameV (s.take aad).skip.name):=ke (by simp only [af0,h0,h1,h2];simp)
 obtain ⟨RR,hRR⟩:∃ RR,af0 own s=RR:=⟨_,rfl⟩
 rw [hRR] at HRE ⊢
 have HT0:=ke (aca W0 w c s aad h)
 rw [h0] at HT0
 obtain ⟨s1,hs1⟩:∃ s1,s.take aad=s1:=⟨_,rfl⟩
 rw [hs1] at HT0
 rw [hs1] at HRE h2 h1
 have HC:Hid (∀ w',Rd W0 c (s1) w'→Calls Tryz.prog 119 #[.pointer (some ⟨c,0,none⟩),.string own] w' fun e w''=>e=.returned (.bool false)∧w'=w''):=by
  show ∀ w',_
  intro w' h';have:=ahu W0 w' c s1 own h';rw [h1] at this;exact this
 have HV:Hid (∀ w',Rd W0 c (s1) w'→Calls Tryz.prog 73 #[.pointer (some ⟨c,0,none⟩),.string adr] w' fun e w''=>e=.returned (.bool true)∧Mv W0 c (RS.skip (s1)) w' w''):=by
  show ∀ w',_
  intro w' h';exact aa3 W0 w' c s1 adr h' h2
 have hnm:=abz s1.skip
 obtain ⟨nm,hnme⟩:∃ nm,s1.skip.nameV=nm:=⟨_,rfl⟩
 have HN:Hid (∀ w',Rd W0 c (s1.skip) w'→Calls Tryz.prog 122 #[.pointer (some ⟨c,0,none⟩)] w' fun e w''=>e=.returned (.string s1.skip.nameV)∧Mv W0 c (s1.skip.name) w' w''):=by
  show ∀ w',_
  intro w' h';exact acq W0 w' c _ h'
 rw [hnme] at HN HRE hnm
 have HS:Hid (∀ w',Rd W0 c (s1.skip.name) w'→Calls Tryz.prog 121 #[.pointer (some ⟨c,0,none⟩),.agg #[.bool false,.bool false,.string adr,.string nm,.slice none 0 0,.slice none 0 0]] w' (MtC W0 c w' RR)):=by
  show ∀ w',_
  intro w' h';have:=ah1 HE HAR W0 w' c _ false adr nm (by unfold adr maxLen;decide) hnm hv h';rw [HRE.out];exact this
 clear hRR hs1 h hv HE HAR h0 h1 h2 hnme
 go_enter Tryz.func76,Tryz.ntmps76
 go_wp2_with fail
 refine HT0.out.mono ?_
 clear HT0
 rintro e w1 ⟨rfl,hm⟩
 have HM:=ke hm
 clear hm
 go_wp2_with fail
 refine (HC.out _ HM.out.2).mono ?_
 clear HC
 rintro e w2 ⟨rfl,rfl⟩
 go_wp2_with fail
 refine (HV.out _ HM.out.2).mono ?_
 clear HV
 rintro e w2 ⟨rfl,hm⟩
 replace HM:=ke (HM.out.trans hm)
 clear hm
 go_wp2_with fail
 refine (HN.out _ HM.out.2).mono ?_
 clear HN
 rintro e w2 ⟨rfl,hm⟩
 replace HM:=ke (HM.out.trans hm)
 clear hm
 go_wp2_with fail
 refine (HS.out _ HM.out.2).mono ?_
 clear HS
 rintro e w9 ⟨y,rfl,⟨st,ct,ty,nm,A1,A2,c1,c2,ps,l,rfl⟩,hk,hm⟩
 have HK:=ke (hk.mono (show w.heap.size≤_ from HM.out.1.size))
 replace HM:=ke (HM.out.trans hm)
 clear hk hm
 simp only [aab]
 go_wp2_with fail
 go_ret
 exact ⟨_,HM.out,.inr ⟨rfl,⟨_,_,_,_,_,_,_,_,_,_,rfl⟩,HK.out⟩⟩
theorem ail (HE:abw) (HAR:adi) (W0 w:World) (c:Nat) (s:RS) (own:ByteArray) (hv:Vars W0) (h:Rd W0 c s w) (h0:s.sees 0 aad=false) (h1:(s.take aad).ctorB own=false) (h2:(s.take aad).sees 0 adr=false) (h3:(s.take aad).typ.name.sees 0 aah=true):Calls Tryz.prog 76 #[.pointer (some ⟨c,0,none⟩),.string own] w (MbC W0 c w (af0 own s)):=by
 have HRE:Hid (af0 own s=metM false (s.take aad).typV (s.take aad).typ.nameV (s.take aad).typ.name):=ke (by simp only [af0,h0,h1,h2,h3];simp)
 obtain ⟨RR,hRR⟩:∃ RR,af0 own s=RR:=⟨_,rfl⟩
 rw [hRR] at HRE ⊢
 have HT0:=ke (aca W0 w c s aad h)
 rw [h0] at HT0
 obtain ⟨s1,hs1⟩:∃ s1,s.take aad=s1:=⟨_,rfl⟩
 rw [hs1] at HT0
 rw [hs1] at HRE h2 h1 h3
 have HC:Hid (∀ w',Rd W0 c (s1) w'→Calls Tryz.prog 119 #[.pointer (some ⟨c,0,none⟩),.string own] w' fun e w''=>e=.returned (.bool false)∧w'=w''):=by
  show ∀ w',_
  intro w' h';have:=ahu W0 w' c s1 own h';rw [h1] at this;exact this
 have HV:Hid (∀ w',Rd W0 c (s1) w'→Calls Tryz.prog 73 #[.pointer (some ⟨c,0,none⟩),.string adr] w' fun e w''=>e=.returned (.bool false)∧w'=w''):=by
  show ∀ w',_
  intro w' h';exact aaa W0 w' c s1 adr h' h2
 have hty:=ajl s1
 have hnm:=abz s1.typ
 obtain ⟨tv,htve⟩:∃ tv,s1.typV=tv:=⟨_,rfl⟩
 obtain ⟨nm,hnme⟩:∃ nm,s1.typ.nameV=nm:=⟨_,rfl⟩
 have HY:Hid (∀ w',Rd W0 c (s1) w'→Calls Tryz.prog 123 #[.pointer (some ⟨c,0,none⟩)] w' fun e w''=>e=.returned (.string s1.typV)∧Mv W0 c (s1.typ) w' w''):=by
  show ∀ w',_
  intro w' h';exact ahs W0 w' c _ h'
 have HN:Hid (∀ w',Rd W0 c (s1.typ) w'→Calls Tryz.prog 122 #[.pointer (some ⟨c,0,none⟩)] w' fun e w''=>e=.returned (.string s1.typ.nameV)∧Mv W0 c (s1.typ.name) w' w''):=by
  show ∀ w',_
  intro w' h';exact acq W0 w' c _ h'
 rw [htve] at HY HRE hty
 rw [hnme] at HN HRE hnm
 have HO:Hid (∀ w',Rd W0 c (s1.typ.name) w'→Calls Tryz.prog 118 #[.pointer (some ⟨c,0,none⟩),.string aah] w' fun e w''=>e=.returned (.bool true)∧w'=w''):=by
  show ∀ w',_
  intro w' h';exact adk W0 w' c _ aah _ h' h3
 have HS:Hid (∀ w',Rd W0 c (s1.typ.name) w'→Calls Tryz.prog 121 #[.pointer (some ⟨c,0,none⟩),.agg #[.bool false,.bool false,.string tv,.string nm,.slice none 0 0,.slice none 0 0]] w' (MtC W0 c w' RR)):=by
  show ∀ w',_
  intro w' h';have:=ah1 HE HAR W0 w' c _ false tv nm hty hnm hv h';rw [HRE.out];exact this
 clear hRR hs1 h hv HE HAR h0 h1 h2 h3 hnme htve
 go_enter Tryz.func76,Tryz.ntmps76
 go_wp2_with fail
 refine HT0.out.mono ?_
 clear HT0
 rintro e w1 ⟨rfl,hm⟩
 have HM:=ke hm
 clear hm
 go_wp2_with fail
 refine (HC.out _ HM.out.2).mono ?_
 clear HC
 rintro e w2 ⟨rfl,rfl⟩
 go_wp2_with fail
 refine (HV.out _ HM.out.2).mono ?_
 clear HV
 rintro e w2 ⟨rfl,rfl⟩
 go_wp2_with fail
 refine (HY.out _ HM.out.2).mono ?_
 clear HY
 rintro e w2 ⟨rfl,hm⟩
 replace HM:=ke (HM.out.trans hm)
 clear hm
 go_wp2_with fail
 refine (HN.out _ HM.out.2).mono ?_
 clear HN
 rintro e w2 ⟨rfl,hm⟩
 replace HM:=ke (HM.out.trans hm)
 clear hm
 go_wp2_with fail
 refine (HO.out _ HM.out.2).mono ?_
 clear HO
 rintro e w2 ⟨rfl,rfl⟩
 go_wp2_with fail
 refine (HS.out _ HM.out.2).mono ?_
 clear HS
 rintro e w9 ⟨y,rfl,⟨st,ct,ty,nm,A1,A2,c1,c2,ps,l,rfl⟩,hk,hm⟩
 have HK:=ke (hk.mono (show w.heap.size≤_ from HM.out.1.size))
 replace HM:=ke (HM.out.trans hm)
 clear hk hm
 simp only [aab]
 go_wp2_with fail
 go_ret
 exact ⟨_,HM.out,.inr ⟨rfl,⟨_,_,_,_,_,_,_,_,_,_,rfl⟩,HK.out⟩⟩
theorem aiz (HE:abw) (HAR:adi) (W0 w:World) (c:Nat) (s:RS) (own:ByteArray) (hv:Vars W0) (h:Rd W0 c s w) (h0:s.sees 0 aad=false) (h1:(s.take aad).ctorB own=false) (h2:(s.take aad).sees 0 adr=false) (h3:(s.take aad).typ.name.sees 0 aah=false):Calls Tryz.prog 76 #[.pointer (some ⟨c,0,none⟩),.string own] w (MbC W0 c w (af0 own s)):=by
 have HRE:Hid (af0 own s=fldM false (s.take aad).typV (s.take aad).typ.nameV (s.take aad).typ.name):=ke (by simp only [af0,h0,h1,h2,h3];simp)
 obtain ⟨RR,hRR⟩:∃ RR,af0 own s=RR:=⟨_,rfl⟩
 rw [hRR] at HRE ⊢
 have HT0:=ke (aca W0 w c s aad h)
 rw [h0] at HT0
 obtain ⟨s1,hs1⟩:∃ s1,s.take aad=s1:=⟨_,rfl⟩
 rw [hs1] at HT0
 rw [hs1] at HRE h2 h1 h3
 have HC:Hid (∀ w',Rd W0 c (s1) w'→Calls Tryz.prog 119 #[.pointer (some ⟨c,0,none⟩),.string own] w' fun e w''=>e=.returned (.bool false)∧w'=w''):=by
  show ∀ w',_
  intro w' h';have:=ahu W0 w' c s1 own h';rw [h1] at this;exact this
 have HV:Hid (∀ w',Rd W0 c (s1) w'→Calls Tryz.prog 73 #[.pointer (some ⟨c,0,none⟩),.string adr] w' fun e w''=>e=.returned (.bool false)∧w'=w''):=by
  show ∀ w',_
  intro w' h';exact aaa W0 w' c s1 adr h' h2
 have hty:=ajl s1
 have hnm:=abz s1.typ
 obtain ⟨tv,htve⟩:∃ tv,s1.typV=tv:=⟨_,rfl⟩
 obtain ⟨nm,hnme⟩:∃ nm,s1.typ.nameV=nm:=⟨_,rfl⟩
 have HY:Hid (∀ w',Rd W0 c (s1) w'→Calls Tryz.prog 123 #[.pointer (some ⟨c,0,none⟩)] w' fun e w''=>e=.returned (.string s1.typV)∧Mv W0 c (s1.typ) w' w''):=by
  show ∀ w',_
  intro w' h';exact ahs W0 w' c _ h'
 have HN:Hid (∀ w',Rd W0 c (s1.typ) w'→Calls Tryz.prog 122 #[.pointer (some ⟨c,0,none⟩)] w' fun e w''=>e=.returned (.string s1.typ.nameV)∧Mv W0 c (s1.typ.name) w' w''):=by
  show ∀ w',_
  intro w' h';exact acq W0 w' c _ h'
 rw [htve] at HY HRE hty
 rw [hnme] at HN HRE hnm
 have HO:Hid (∀ w',Rd W0 c (s1.typ.name) w'→Calls Tryz.prog 118 #[.pointer (some ⟨c,0,none⟩),.string aah] w' fun e w''=>e=.returned (.bool false)∧w'=w''):=by
  show ∀ w',_
  intro w' h';exact adk W0 w' c _ aah _ h' h3
 have HS:Hid (∀ w',Rd W0 c (s1.typ.name) w'→Calls Tryz.prog 124 #[.pointer (some ⟨c,0,none⟩),.agg #[.bool false,.string tv,.string nm,.slice none 0 0]] w' (FdC W0 c w' RR)):=by
  show ∀ w',_
  intro w' h';have:=field_any HE W0 w' c _ false tv nm hty hnm hv h';rw [HRE.out];exact this
 clear hRR hs1 h hv HE HAR h0 h1 h2 h3 hnme htve
 go_enter Tryz.func76,Tryz.ntmps76
 go_wp2_with fail
 refine HT0.out.mono ?_
 clear HT0
 rintro e w1 ⟨rfl,hm⟩
 have HM:=ke hm
 clear hm
 go_wp2_with fail
 refine (HC.out _ HM.out.2).mono ?_
 clear HC
 rintro e w2 ⟨rfl,rfl⟩
 go_wp2_with fail
 refine (HV.out _ HM.out.2).mono ?_
 clear HV
 rintro e w2 ⟨rfl,rfl⟩
 go_wp2_with fail
 refine (HY.out _ HM.out.2).mono ?_
 clear HY
 rintro e w2 ⟨rfl,hm⟩
 replace HM:=ke (HM.out.trans hm)
 clear hm
 go_wp2_with fail
 refine (HN.out _ HM.out.2).mono ?_
 clear HN
 rintro e w2 ⟨rfl,hm⟩
 replace HM:=ke (HM.out.trans hm)
 clear hm
 go_wp2_with fail
 refine (HO.out _ HM.out.2).mono ?_
 clear HO
 rintro e w2 ⟨rfl,rfl⟩
 go_wp2_with fail
 refine (HS.out _ HM.out.2).mono ?_
 clear HS
 rintro e w9 ⟨y,rfl,⟨st,ty,nm,A1,c1,l,rfl⟩,hk,hm⟩
 have HK:=ke (hk.mono (show w.heap.size≤_ from HM.out.1.size))
 replace HM:=ke (HM.out.trans hm)
 clear hk hm
 simp only [aab]
 go_wp2_with fail
 go_ret
 exact ⟨_,HM.out,.inl ⟨rfl,⟨_,_,_,_,_,_,rfl⟩,HK.out⟩⟩
theorem akb (HE:abw) (HAR:adi) (W0 w:World) (c:Nat) (s:RS) (own:ByteArray) (hv:Vars W0) (h:Rd W0 c s w) (h0:s.sees 0 aad=true) (h2:(s.take aad).sees 0 adr=true):Calls Tryz.prog 76 #[.pointer (some ⟨c,0,none⟩),.string own] w (MbC W0 c w (af0 own s)):=by
 have HRE:Hid (af0 own s=metM true adr (s.take aad).skip.nameV (s.take aad).skip.name):=ke (by simp only [af0,h0,h2];simp)
 obtain ⟨RR,hRR⟩:∃ RR,af0 own s=RR:=⟨_,rfl⟩
 rw [hRR] at HRE ⊢
 have HT0:=ke (aca W0 w c s aad h)
 rw [h0] at HT0
 obtain ⟨s1,hs1⟩:∃ s1,s.take aad=s1:=⟨_,rfl⟩
 rw [hs1] at HT0
 rw [hs1] at HRE h2
 have HV:Hid (∀ w',Rd W0 c (s1) w'→Calls Tryz.prog 73 #[.pointer (some ⟨c,0,none⟩),.string adr] w' fun e w''=>e=.returned (.bool true)∧Mv W0 c (RS.skip (s1)) w' w''):=by
  show ∀ w',_
  intro w' h';exact aa3 W0 w' c s1 adr h' h2
 have hnm:=abz s1.skip
 obtain ⟨nm,hnme⟩:∃ nm,s1.skip.nameV=nm:=⟨_,rfl⟩
 have HN:Hid (∀ w',Rd W0 c (s1.skip) w'→Calls Tryz.prog 122 #[.pointer (some ⟨c,0,none⟩)] w' fun e w''=>e=.returned (.string s1.skip.nameV)∧Mv W0 c (s1.skip.name) w' w''):=by
  show ∀ w',_
  intro w' h';exact acq W0 w' c _ h'
 rw [hnme] at HN HRE hnm
 have HS:Hid (∀ w',Rd W0 c (s1.skip.name) w'→Calls Tryz.prog 121 #[.pointer (some ⟨c,0,none⟩),.agg #[.bool true,.bool false,.string adr,.string nm,.slice none 0 0,.slice none 0 0]] w' (MtC W0 c w' RR)):=by
  show ∀ w',_
  intro w' h';have:=ah1 HE HAR W0 w' c _ true adr nm (by unfold adr maxLen;decide) hnm hv h';rw [HRE.out];exact this
 clear hRR hs1 h hv HE HAR h0 h2 hnme
 go_enter Tryz.func76,Tryz.ntmps76
 go_wp2_with fail
 refine HT0.out.mono ?_
 clear HT0
 rintro e w1 ⟨rfl,hm⟩
 have HM:=ke hm
 clear hm
 go_wp2_with fail
 refine (HV.out _ HM.out.2).mono ?_
 clear HV
 rintro e w2 ⟨rfl,hm⟩
 replace HM:=ke (HM.out.trans hm)
 clear hm
 go_wp2_with fail
 refine (HN.out _ HM.out.2).mono ?_
 clear HN
 rintro e w2 ⟨rfl,hm⟩
 replace HM:=ke (HM.out.trans hm)
 clear hm
 go_wp2_with fail
 refine (HS.out _ HM.out.2).mono ?_
 clear HS
 rintro e w9 ⟨y,rfl,⟨st,ct,ty,nm,A1,A2,c1,c2,ps,l,rfl⟩,hk,hm⟩
 have HK:=ke (hk.mono (show w.heap.size≤_ from HM.out.1.size))
 replace HM:=ke (HM.out.trans hm)
 clear hk hm
 simp only [aab]
 go_wp2_with fail
 go_ret
 exact ⟨_,HM.out,.inr ⟨rfl,⟨_,_,_,_,_,_,_,_,_,_,rfl⟩,HK.out⟩⟩
theorem aiy (HE:abw) (HAR:adi) (W0 w:World) (c:Nat) (s:RS) (own:ByteArray) (hv:Vars W0) (h:Rd W0 c s w) (h0:s.sees 0 aad=true) (h2:(s.take aad).sees 0 adr=false) (h3:(s.take aad).typ.name.sees 0 aah=true):Calls Tryz.prog 76 #[.pointer (some ⟨c,0,none⟩),.string own] w (MbC W0 c w (af0 own s)):=by
 have HRE:Hid (af0 own s=metM true (s.take aad).typV (s.take aad).typ.nameV (s.take aad).typ.name):=ke (by simp only [af0,h0,h2,h3];simp)
 obtain ⟨RR,hRR⟩:∃ RR,af0 own s=RR:=⟨_,rfl⟩
 rw [hRR] at HRE ⊢
 have HT0:=ke (aca W0 w c s aad h)
 rw [h0] at HT0
 obtain ⟨s1,hs1⟩:∃ s1,s.take aad=s1:=⟨_,rfl⟩
 rw [hs1] at HT0
 rw [hs1] at HRE h2 h3
 have HV:Hid (∀ w',Rd W0 c (s1) w'→Calls Tryz.prog 73 #[.pointer (some ⟨c,0,none⟩),.string adr] w' fun e w''=>e=.returned (.bool false)∧w'=w''):=by
  show ∀ w',_
  intro w' h';exact aaa W0 w' c s1 adr h' h2
 have hty:=ajl s1
 have hnm:=abz s1.typ
 obtain ⟨tv,htve⟩:∃ tv,s1.typV=tv:=⟨_,rfl⟩
 obtain ⟨nm,hnme⟩:∃ nm,s1.typ.nameV=nm:=⟨_,rfl⟩
 have HY:Hid (∀ w',Rd W0 c (s1) w'→Calls Tryz.prog 123 #[.pointer (some ⟨c,0,none⟩)] w' fun e w''=>e=.returned (.string s1.typV)∧Mv W0 c (s1.typ) w' w''):=by
  show ∀ w',_
  intro w' h';exact ahs W0 w' c _ h'
 have HN:Hid (∀ w',Rd W0 c (s1.typ) w'→Calls Tryz.prog 122 #[.pointer (some ⟨c,0,none⟩)] w' fun e w''=>e=.returned (.string s1.typ.nameV)∧Mv W0 c (s1.typ.name) w' w''):=by
  show ∀ w',_
  intro w' h';exact acq W0 w' c _ h'
 rw [htve] at HY HRE hty
 rw [hnme] at HN HRE hnm
 have HO:Hid (∀ w',Rd W0 c (s1.typ.name) w'→Calls Tryz.prog 118 #[.pointer (some ⟨c,0,none⟩),.string aah] w' fun e w''=>e=.returned (.bool true)∧w'=w''):=by
  show ∀ w',_
  intro w' h';exact adk W0 w' c _ aah _ h' h3
 have HS:Hid (∀ w',Rd W0 c (s1.typ.name) w'→Calls Tryz.prog 121 #[.pointer (some ⟨c,0,none⟩),.agg #[.bool true,.bool false,.string tv,.string nm,.slice none 0 0,.slice none 0 0]] w' (MtC W0 c w' RR)):=by
  show ∀ w',_
  intro w' h';have:=ah1 HE HAR W0 w' c _ true tv nm hty hnm hv h';rw [HRE.out];exact this
 clear hRR hs1 h hv HE HAR h0 h2 h3 hnme htve
 go_enter Tryz.func76,Tryz.ntmps76
 go_wp2_with fail
 refine HT0.out.mono ?_
 clear HT0
 rintro e w1 ⟨rfl,hm⟩
 have HM:=ke hm
 clear hm
 go_wp2_with fail
 refine (HV.out _ HM.out.2).mono ?_
 clear HV
 rintro e w2 ⟨rfl,rfl⟩
 go_wp2_with fail
 refine (HY.out _ HM.out.2).mono ?_
 clear HY
 rintro e w2 ⟨rfl,hm⟩
 replace HM:=ke (HM.out.trans hm)
 clear hm
 go_wp2_with fail
 refine (HN.out _ HM.out.2).mono ?_
 clear HN
 rintro e w2 ⟨rfl,hm⟩
 replace HM:=ke (HM.out.trans hm)
 clear hm
 go_wp2_with fail
 refine (HO.out _ HM.out.2).mono ?_
 clear HO
 rintro e w2 ⟨rfl,rfl⟩
 go_wp2_with fail
 refine (HS.out _ HM.out.2).mono ?_
 clear HS
 rintro e w9 ⟨y,rfl,⟨st,ct,ty,nm,A1,A2,c1,c2,ps,l,rfl⟩,hk,hm⟩
 have HK:=ke (hk.mono (show w.heap.size≤_ from HM.out.1.size))
 replace HM:=ke (HM.out.trans hm)
 clear hk hm
 simp only [aab]
 go_wp2_with fail
 go_ret
 exact ⟨_,HM.out,.inr ⟨rfl,⟨_,_,_,_,_,_,_,_,_,_,rfl⟩,HK.out⟩⟩
theorem ajw (HE:abw) (HAR:adi) (W0 w:World) (c:Nat) (s:RS) (own:ByteArray) (hv:Vars W0) (h:Rd W0 c s w) (h0:s.sees 0 aad=true) (h2:(s.take aad).sees 0 adr=false) (h3:(s.take aad).typ.name.sees 0 aah=false):Calls Tryz.prog 76 #[.pointer (some ⟨c,0,none⟩),.string own] w (MbC W0 c w (af0 own s)):=by
 have HRE:Hid (af0 own s=fldM true (s.take aad).typV (s.take aad).typ.nameV (s.take aad).typ.name):=ke (by simp only [af0,h0,h2,h3];simp)
 obtain ⟨RR,hRR⟩:∃ RR,af0 own s=RR:=⟨_,rfl⟩
 rw [hRR] at HRE ⊢
 have HT0:=ke (aca W0 w c s aad h)
 rw [h0] at HT0
 obtain ⟨s1,hs1⟩:∃ s1,s.take aad=s1:=⟨_,rfl⟩
 rw [hs1] at HT0
 rw [hs1] at HRE h2 h3
 have HV:Hid (∀ w',Rd W0 c (s1) w'→Calls Tryz.prog 73 #[.pointer (some ⟨c,0,none⟩),.string adr] w' fun e w''=>e=.returned (.bool false)∧w'=w''):=by
  show ∀ w',_
  intro w' h';exact aaa W0 w' c s1 adr h' h2
 have hty:=ajl s1
 have hnm:=abz s1.typ
 obtain ⟨tv,htve⟩:∃ tv,s1.typV=tv:=⟨_,rfl⟩
 obtain ⟨nm,hnme⟩:∃ nm,s1.typ.nameV=nm:=⟨_,rfl⟩
 have HY:Hid (∀ w',Rd W0 c (s1) w'→Calls Tryz.prog 123 #[.pointer (some ⟨c,0,none⟩)] w' fun e w''=>e=.returned (.string s1.typV)∧Mv W0 c (s1.typ) w' w''):=by
  show ∀ w',_
  intro w' h';exact ahs W0 w' c _ h'
 have HN:Hid (∀ w',Rd W0 c (s1.typ) w'→Calls Tryz.prog 122 #[.pointer (some ⟨c,0,none⟩)] w' fun e w''=>e=.returned (.string s1.typ.nameV)∧Mv W0 c (s1.typ.name) w' w''):=by
  show ∀ w',_
  intro w' h';exact acq W0 w' c _ h'
 rw [htve] at HY HRE hty
 rw [hnme] at HN HRE hnm
 have HO:Hid (∀ w',Rd W0 c (s1.typ.name) w'→Calls Tryz.prog 118 #[.pointer (some ⟨c,0,none⟩),.string aah] w' fun e w''=>e=.returned (.bool false)∧w'=w''):=by
  show ∀ w',_
  intro w' h';exact adk W0 w' c _ aah _ h' h3
 have HS:Hid (∀ w',Rd W0 c (s1.typ.name) w'→Calls Tryz.prog 124 #[.pointer (some ⟨c,0,none⟩),.agg #[.bool true,.string tv,.string nm,.slice none 0 0]] w' (FdC W0 c w' RR)):=by
  show ∀ w',_
  intro w' h';have:=field_any HE W0 w' c _ true tv nm hty hnm hv h';rw [HRE.out];exact this
 clear hRR hs1 h hv HE HAR h0 h2 h3 hnme htve
 go_enter Tryz.func76,Tryz.ntmps76
 go_wp2_with fail
 refine HT0.out.mono ?_
 clear HT0
 rintro e w1 ⟨rfl,hm⟩
 have HM:=ke hm
 clear hm
 go_wp2_with fail
 refine (HV.out _ HM.out.2).mono ?_
 clear HV
 rintro e w2 ⟨rfl,rfl⟩
 go_wp2_with fail
 refine (HY.out _ HM.out.2).mono ?_
 clear HY
 rintro e w2 ⟨rfl,hm⟩
 replace HM:=ke (HM.out.trans hm)
 clear hm
 go_wp2_with fail
 refine (HN.out _ HM.out.2).mono ?_
 clear HN
 rintro e w2 ⟨rfl,hm⟩
 replace HM:=ke (HM.out.trans hm)
 clear hm
 go_wp2_with fail
 refine (HO.out _ HM.out.2).mono ?_
 clear HO
 rintro e w2 ⟨rfl,rfl⟩
 go_wp2_with fail
 refine (HS.out _ HM.out.2).mono ?_
 clear HS
 rintro e w9 ⟨y,rfl,⟨st,ty,nm,A1,c1,l,rfl⟩,hk,hm⟩
 have HK:=ke (hk.mono (show w.heap.size≤_ from HM.out.1.size))
 replace HM:=ke (HM.out.trans hm)
 clear hk hm
 simp only [aab]
 go_wp2_with fail
 go_ret
 exact ⟨_,HM.out,.inl ⟨rfl,⟨_,_,_,_,_,_,rfl⟩,HK.out⟩⟩
theorem member_any (HE:abw) (HAR:adi) (W0 w:World) (c:Nat) (s:RS) (own:ByteArray) (hv:Vars W0) (h:Rd W0 c s w):Calls Tryz.prog 76 #[.pointer (some ⟨c,0,none⟩),.string own] w (MbC W0 c w (af0 own s)):=by
 cases h0:s.sees 0 aad with
 | true =>
  cases h2:(s.take aad).sees 0 adr with
  | true=>exact akb HE HAR W0 w c s own hv h h0 h2
  | false =>
   cases h3:(s.take aad).typ.name.sees 0 aah with
   | true=>exact aiy HE HAR W0 w c s own hv h h0 h2 h3
   | false=>exact ajw HE HAR W0 w c s own hv h h0 h2 h3
 | false =>
  cases h1:(s.take aad).ctorB own with
  | true=>exact member_ctor HE HAR W0 w c s own hv h h0 h1
  | false =>
   cases h2:(s.take aad).sees 0 adr with
   | true=>exact ajv HE HAR W0 w c s own hv h h0 h1 h2
   | false =>
    cases h3:(s.take aad).typ.name.sees 0 aah with
    | true=>exact ail HE HAR W0 w c s own hv h h0 h1 h2 h3
    | false=>exact aiz HE HAR W0 w c s own hv h h0 h1 h2 h3
end
section
open Go.RowKit
theorem ah6 {w w1 w2:World} {o:Option Nat} {g:Nat} (h:w.grownBy w1 o) (h2:w1.grownBy w2 (some g)) (hg:w.heap.size≤g):w.grownBy w2 o :=
 ⟨h2.os.trans h.os,h2.tape.trans h.tape,h2.output.trans h.output,Nat.le_trans h.size h2.size,fun k hk hne=>(h2.block k (Nat.lt_of_lt_of_le hk h.size) (by simp;omega)).trans (h.block k hk hne)⟩
theorem grownB_below {w w1 w2:World} {o:Option Nat} (h:w.grownBy w1 o) (hb:Below w1.heap.size w1 w2):w.grownBy w2 o :=
 ⟨hb.os.trans h.os,hb.tape.trans h.tape,hb.output.trans h.output,Nat.le_trans h.size hb.size,fun k hk hne=>(hb.block k (Nat.lt_of_lt_of_le hk h.size)).trans (h.block k hk hne)⟩
theorem aka {w w1 w2:World} {o:Option Nat} (hb:Below w.heap.size w w1) (h:w1.grownBy w2 o):w.grownBy w2 o :=
 ⟨h.os.trans hb.os,h.tape.trans hb.tape,h.output.trans hb.output,Nat.le_trans hb.size h.size,fun k hk hne=>(h.block k (Nat.lt_of_lt_of_le hk hb.size) hne).trans (hb.block k hk)⟩
section
variable {t:Tg} {T:TypeId} {B B2:Nat} {r r':Option Nat} {w w':World} {v v':Value} {xs ys:List Nd} {x y:Nd}
theorem OwnT.grow (h:OwnT t T B r w v xs) (hy:NK t B2 none w x y) (hB:B≤B2) (hv:∀ k,v.ownBlock=some k→k < B2) (hr:∀ g,r=some g→g < B2) (ho:w'.ownsRow B T t.sz v' (xs.length+1) (xs.flatMap aab ++ aab y)) (hg:w.grownBy w' v.ownBlock)
 (hat:v'.ownBlock=v.ownBlock∨∃ k,v'.ownBlock=some k∧w.heap.size≤k) (hm:xs.length+1≤2000000):OwnT t T B r w' v' (xs ++ [y]):=by
 have key:∀ k j u,some k≠v.ownBlock→w.cell? ⟨k,j,none⟩=some u→w'.cell? ⟨k,j,none⟩=some u∧some k≠v'.ownBlock:=by
  intro k j u hk hu
  have hlt:=World.block_lt_of_cell? w (a:=⟨k,j,none⟩) hu
  simp only at hlt
  refine ⟨(World.cell?_of_block (a:=⟨k,j,none⟩) (hg.block k hlt hk)).trans hu,?_⟩
  rcases hat with e|⟨g,e,hg'⟩
  ·rw [e];exact hk
  ·rw [e];intro e';injection e' with e';omega
 refine ⟨by simpa using ho,fun z hz=>?_,fun ws hs=>afb (h.2.2.1 ws fun k j u hk hne hnr hu=>?_) ⟨hy.2.1 ws fun k j u hk _ hu=>?_,trivial⟩,by simpa using hm⟩
 ·rcases List.mem_append.1 hz with hz|hz
  ·exact h.2.1 z hz
  ·rw [List.mem_singleton.1 hz];exact hy.1
 ·exact hs k j u hk (key k j u hne hu).2 hnr (key k j u hne hu).1
 ·have hkv:some k≠v.ownBlock:=by
   intro e
   have:=hv k e.symm
   omega
  exact hs k j u (Nat.le_trans hB hk) (key k j u hkv hu).2 (fun e=>by have:=hr k e.symm;omega) (key k j u hkv hu).1
theorem OwnT.step {g:Option Nat} (h:OwnT t T B g w v ys) (hg:w.grownBy w' g) (hne:∀ k,v.ownBlock=some k→g≠some k) (hr':r'=g∨∃ k,r'=some k∧w.heap.size≤k):OwnT t T B r' w' v ys:=by
 refine ⟨h.1.kept hg (by
  cases hv':v.ownBlock with
  | none=>exact .inl rfl
  | some k=>exact .inr (fun e=>hne k hv' e.symm)),h.2.1,fun ws hs=>h.2.2.1 ws fun k j u hk n1 n2 hu=>?_,h.2.2.2⟩
 have hlt:=World.block_lt_of_cell? w (a:=⟨k,j,none⟩) hu
 simp only at hlt
 refine hs k j u hk n1 ?_ ((World.cell?_of_block (a:=⟨k,j,none⟩) (hg.block k hlt n2)).trans hu)
 rcases hr' with e|⟨q,e,hq⟩
 ·rw [e];exact n2
 ·rw [e];intro e';injection e' with e';omega
end
@[go_sem] theorem is_fd_fd (v:Value) (w:World):(Instr.typeAssert (.iface 102 v) 84 102 true).run Tryz.prog w=.ok (.tuple #[v,.bool true]) w:=by kernel_rfl
@[go_sem] theorem is_fd_mt (v:Value) (w:World):(Instr.typeAssert (.iface 102 v) 84 47 true).run Tryz.prog w=.ok (.tuple #[.agg #[.bool false,.bool false,.string ⟨#[]⟩,.string ⟨#[]⟩,.slice none 0 0,.slice none 0 0],.bool false]) w:=by kernel_rfl
@[go_sem] theorem is_mt_fd (v:Value) (w:World):(Instr.typeAssert (.iface 47 v) 84 102 true).run Tryz.prog w=.ok (.tuple #[.agg #[.bool false,.string ⟨#[]⟩,.string ⟨#[]⟩,.slice none 0 0],.bool false]) w:=by kernel_rfl
@[go_sem] theorem is_mt_mt (v:Value) (w:World):(Instr.typeAssert (.iface 47 v) 84 47 true).run Tryz.prog w=.ok (.tuple #[v,.bool true]) w:=by kernel_rfl
def WiF (w:World) (B:Nat) (nm sp:ByteArray) (vf vm:Value) (fs gs:List Nd) (y:Nd) (e:Ending) (w':World):Prop:=∃ v',e=.returned (.agg #[.string nm,.string sp,v',vm])∧OwnT .fd 102 B vm.ownBlock w' v' (fs ++ [y])∧OwnT .mt 47 B v'.ownBlock w' vm gs∧(∀ k,v'.ownBlock=some k→vm.ownBlock≠some k)∧w.grownBy w' vf.ownBlock
def WiM (w:World) (B:Nat) (nm sp:ByteArray) (vf vm:Value) (fs gs:List Nd) (y:Nd) (e:Ending) (w':World):Prop:=∃ v',e=.returned (.agg #[.string nm,.string sp,vf,v'])∧OwnT .fd 102 B v'.ownBlock w' vf fs∧OwnT .mt 47 B vf.ownBlock w' v' (gs ++ [y])∧(∀ k,vf.ownBlock=some k→v'.ownBlock≠some k)∧w.grownBy w' vm.ownBlock
theorem with_F (w:World) (B B2:Nat) (nm sp:ByteArray) (Af Am:Option Addr) (cf cm:Nat) (fs gs:List Nd) (x:Nd) (st:Bool) (ty nm':ByteArray) (A1:Option Addr) (c1:Nat) (l:List Nd) (hf:OwnT .fd 102 B (Value.slice Am gs.length cm).ownBlock w (Value.slice Af fs.length cf) fs) (hg:OwnT .mt 47 B (Value.slice Af fs.length cf).ownBlock w (Value.slice Am gs.length cm) gs) (hd:∀ k,(Value.slice Af fs.length cf).ownBlock=some k→(Value.slice Am gs.length cm).ownBlock≠some k)
 (hy:NK .fd B2 none w x (.fd st ty nm' (.slice A1 l.length c1) l)) (hB2:B≤B2) (hvf:∀ k,(Value.slice Af fs.length cf).ownBlock=some k→k < B2) (hvm:∀ k,(Value.slice Am gs.length cm).ownBlock=some k→k < B2) (hBw:B≤w.heap.size) (hB2w:B2≤w.heap.size) (hlen:fs.length≤1000001) :
 Calls Tryz.prog 75 #[.agg #[.string nm,.string sp,.slice Af fs.length cf,.slice Am gs.length cm],.iface 102 (.agg #[.bool st,.string ty,.string nm',.slice A1 l.length c1])] w (WiF w B nm sp (Value.slice Af fs.length cf) (Value.slice Am gs.length cm) fs gs (.fd st ty nm' (.slice A1 l.length c1) l)):=by
 obtain ⟨i0,hi,hz0,hzz1,hzz2⟩:=info_parts Tryz.infoFd
 have HF:=ke hf;have HG:=ke hg;have HD:=ke hd;have HY:=ke hy;have HVF:=ke hvf;have HVM:=ke hvm
 clear hf hg hd hy hvf hvm
 obtain ⟨Wa,ha⟩:∃ W,w.alloc (.cells #[.string nm,.string sp,.slice Af fs.length cf,.slice Am gs.length cm] 43)=W:=⟨_,rfl⟩
 have ka:Below w.heap.size w Wa:=by rw [← ha];exact (Below.refl _ _).alloc (Nat.le_refl _) _
 have xa:Bx Wa w.heap.size #[.string nm,.string sp,.slice Af fs.length cf,.slice Am gs.length cm] 43:=by rw [← ha];exact Bx.new _ _ _
 have sa:Wa.heap.size=w.heap.size+1:=by rw [← ha];simp
 obtain ⟨Wb,hb⟩:∃ W,Wa.alloc (.cells #[.string ⟨#[]⟩,.string ⟨#[]⟩,.slice none 0 0,.slice none 0 0] 43)=W:=⟨_,rfl⟩
 have kb:Below Wa.heap.size Wa Wb:=by rw [← hb];exact (Below.refl _ _).alloc (Nat.le_refl _) _
 have xb:Bx Wb (w.heap.size+1) #[.string ⟨#[]⟩,.string ⟨#[]⟩,.slice none 0 0,.slice none 0 0] 43:=by rw [← hb,← sa];exact Bx.new _ _ _
 have sb:Wb.heap.size=w.heap.size+2:=by rw [← hb];simp [sa]
 obtain ⟨Wd,hd⟩:∃ W,Wb.alloc (.cells #[.bool st,.string ty,.string nm',.slice A1 l.length c1] 102)=W:=⟨_,rfl⟩
 have kd:Below Wb.heap.size Wb Wd:=by rw [← hd];exact (Below.refl _ _).alloc (Nat.le_refl _) _
 have xd:Bx Wd (w.heap.size+2) #[.bool st,.string ty,.string nm',.slice A1 l.length c1] 102:=by rw [← hd,← sb];exact Bx.new _ _ _
 have sd:Wd.heap.size=w.heap.size+3:=by rw [← hd];simp [sb]
 have FACTS:Bx Wd w.heap.size #[.string nm,.string sp,.slice Af fs.length cf,.slice Am gs.length cm] 43∧Bx Wd (w.heap.size+1) #[.string ⟨#[]⟩,.string ⟨#[]⟩,.slice none 0 0,.slice none 0 0] 43∧Bx Wd (w.heap.size+2) #[.bool st,.string ty,.string nm',.slice A1 l.length c1] 102∧Below w.heap.size w Wd∧Hid (Wd.heap.size=w.heap.size+3):=by
  refine ⟨(xa.next kb).next kd,xb.next kd,xd,(ka.trans (kb.mono ka.size)).trans (kd.mono (Nat.le_trans ka.size kb.size)),ke sd⟩
 clear xa xb xd ka kb kd sa sb sd
 subst ha hb hd
 go_enter Tryz.func75,Tryz.ntmps75
 go_upto_region 2 with (fail)
 refine aak (fun W=>Bx W w.heap.size #[.string nm,.string sp,.slice Af fs.length cf,.slice Am gs.length cm] 43∧Bx W (w.heap.size+1) #[.string ⟨#[]⟩,.string ⟨#[]⟩,.slice none 0 0,.slice none 0 0] 43∧Bx W (w.heap.size+2) #[.bool st,.string ty,.string nm',.slice A1 l.length c1] 102∧Below w.heap.size w W∧Hid (W.heap.size=w.heap.size+3)) FACTS ?_
 clear FACTS
 rintro W ⟨x1,x2,x3,hbw,HSZ⟩
 have HX1:=ke x1;have HX2:=ke x2;have HBW:=ke hbw
 obtain ⟨c0,c1',c2',c3'⟩:=x1.all_4
 obtain ⟨y0,y1,y2,y3⟩:=x3.all_4
 have hba:Below W.heap.size W (W.alloc (.cells #[.bool st,.string ty,.string nm',.slice A1 l.length c1] 102)):=(Below.refl _ _).alloc (Nat.le_refl _) _
 have HO2:=ke (abr (abr HF.out.1 hbw) hba)
 have HYR:=ke (OwnT.one (T:=102) ((HY.out.below hbw).mono (Nat.le_refl _)) (Nat.le_trans hB2w hbw.size))
 simp only [aab] at HYR
 have HGB:=ke (hbw.trans (hba.mono hbw.size))
 have hwz:B≤(W.alloc (.cells #[.bool st,.string ty,.string nm',.slice A1 l.length c1] 102)).heap.size:=Nat.le_trans hBw (Nat.le_trans hbw.size hba.size)
 clear x1 x2 x3 hbw hba
 go_wp2_with (at_builtin;refine acw rfl (.tmp 16) (.tmp 18) 40 rfl B 102 i0 _ 4 64 Tryz.underlying40 hi hz0 hzz1 hzz2 rfl (by decide) _ _ _ rfl HO2.out B2 _ _ _ rfl HYR.out.1 HYR.out.one' ?c3 ?c4 hwz ?_)
 case c3=>unfold maxLen;simp;omega
 case c4=>simp;omega
 intro v2 w4 hown2 hgrow hat
 have hown3:w4.ownsRow B 102 4 v2 (fs.length+1) (fs.flatMap aab ++ aab (.fd st ty nm' (.slice A1 l.length c1) l)):=by simpa using hown2
 obtain ⟨A3,c3,rfl,_⟩:=abc hown3
 have G4:=aka HGB.out hgrow
 have hne0:∀ k,(Value.slice Af fs.length cf).ownBlock=some k→k < w.heap.size:=fun k hk=>Nat.lt_of_lt_of_le (HVF.out k hk) hB2w
 have hszz:w.heap.size+3 < (W.alloc (.cells #[.bool st,.string ty,.string nm',.slice A1 l.length c1] 102)).heap.size:=by rw [World.size_alloc,HSZ.out];omega
 have kk:∀ b cs T,Bx W b cs T→w.heap.size≤b→Bx w4 b cs T:=fun b cs T hx hbb=>(hgrow.block b (hx.next ((Below.refl _ _).alloc (Nat.le_refl _) _)).lt (fun e=>by have:=hne0 b e.symm;omega)).trans (hx.next ((Below.refl _ _).alloc (Nat.le_refl _) _))
 have x1:=kk _ _ _ HX1.out (Nat.le_refl _)
 have HX24:=ke (kk _ _ _ HX2.out (by omega))
 obtain ⟨d0,d1,d2,d3⟩:=x1.all_4
 have gd:=x1.fro 2
 have HGR:=ke G4
 have HOW:=ke hown3
 have HAT:Hid ((Value.slice A3 (fs.length+1) c3).ownBlock=(Value.slice Af fs.length cf).ownBlock∨∃ k,(Value.slice A3 (fs.length+1) c3).ownBlock=some k∧w.heap.size+3 < k):=ke (hat.imp id fun e=>⟨_,e,by simpa using hszz⟩)
 have HX14:=ke x1
 have HNE0:=ke hne0
 have hnew:Hid (∀ b,w.heap.size≤b→b≤w.heap.size+3→(Value.slice A3 (fs.length+1) c3).ownBlock≠some b):=by
  show ∀ b,_
  intro b h1 h2 e
  rcases HAT.out with e2|⟨k,e2,hk⟩
  ·rw [e] at e2;have:=HNE0.out _ e2.symm;omega
  ·rw [e] at e2;injection e2 with e2;omega
 clear kk x1 hown2 hown3 hgrow hat G4 HX1 HX2 HO2 HYR hne0 hszz
 have F5:Bx (w4.setCell ⟨w.heap.size,2,none⟩ (Value.slice A3 (fs.length+1) c3)) w.heap.size #[.string nm,.string sp,.slice A3 (fs.length+1) c3,.slice Am gs.length cm] 43∧Bx (w4.setCell ⟨w.heap.size,2,none⟩ (Value.slice A3 (fs.length+1) c3)) (w.heap.size+1) #[.string ⟨#[]⟩,.string ⟨#[]⟩,.slice none 0 0,.slice none 0 0] 43∧w.grownBy (w4.setCell ⟨w.heap.size,2,none⟩ (Value.slice A3 (fs.length+1) c3)) (Value.slice Af fs.length cf).ownBlock∧World.ownsRow (w4.setCell ⟨w.heap.size,2,none⟩ (Value.slice A3 (fs.length+1) c3)) B 102 4 (Value.slice A3 (fs.length+1) c3) (fs.length+1) (fs.flatMap aab ++ aab (.fd st ty nm' (.slice A1 l.length c1) l)):=by
  have hg5:w4.grownBy (w4.setCell ⟨w.heap.size,2,none⟩ (Value.slice A3 (fs.length+1) c3)) (some w.heap.size):=aac _ _ _ _
  refine ⟨?_,Bx.grown HX24.out hg5 (by omega),ah6 HGR.out hg5 (Nat.le_refl _),HOW.out.kept hg5 (.inr (hnew.out _ (Nat.le_refl _) (by omega)))⟩
  have:=HX14.out.set 2 (Value.slice A3 (fs.length+1) c3)
  simpa using this
 go_upto_region 4 with (fail)
 refine aak (fun W=>Bx W w.heap.size #[.string nm,.string sp,.slice A3 (fs.length+1) c3,.slice Am gs.length cm] 43∧Bx W (w.heap.size+1) #[.string ⟨#[]⟩,.string ⟨#[]⟩,.slice none 0 0,.slice none 0 0] 43∧w.grownBy W (Value.slice Af fs.length cf).ownBlock∧World.ownsRow W B 102 4 (Value.slice A3 (fs.length+1) c3) (fs.length+1) (fs.flatMap aab ++ aab (.fd st ty nm' (.slice A1 l.length c1) l))) F5 ?_
 clear F5 d0 d1 d2 d3 gd HX14 HX24 HGR HOW
 rintro W5 ⟨x15,x25,g5,o5⟩
 have HX15:=ke x15;have HX25:=ke x25;have HG5:=ke g5;have HO5:=ke o5
 clear x15 x25 g5 o5
 go_upto_region 7 with (fail)
 have F6:Bx (W5.alloc (.cells #[.bool false,.bool false,.string ⟨#[]⟩,.string ⟨#[]⟩,.slice none 0 0,.slice none 0 0] 47)) w.heap.size #[.string nm,.string sp,.slice A3 (fs.length+1) c3,.slice Am gs.length cm] 43∧Bx (W5.alloc (.cells #[.bool false,.bool false,.string ⟨#[]⟩,.string ⟨#[]⟩,.slice none 0 0,.slice none 0 0] 47)) (w.heap.size+1) #[.string ⟨#[]⟩,.string ⟨#[]⟩,.slice none 0 0,.slice none 0 0] 43∧w.grownBy (W5.alloc (.cells #[.bool false,.bool false,.string ⟨#[]⟩,.string ⟨#[]⟩,.slice none 0 0,.slice none 0 0] 47)) (Value.slice Af fs.length cf).ownBlock∧World.ownsRow (W5.alloc (.cells #[.bool false,.bool false,.string ⟨#[]⟩,.string ⟨#[]⟩,.slice none 0 0,.slice none 0 0] 47)) B 102 4 (Value.slice A3 (fs.length+1) c3) (fs.length+1) (fs.flatMap aab ++ aab (.fd st ty nm' (.slice A1 l.length c1) l)):=by
  have h6:Below W5.heap.size W5 (W5.alloc (.cells #[.bool false,.bool false,.string ⟨#[]⟩,.string ⟨#[]⟩,.slice none 0 0,.slice none 0 0] 47)):=(Below.refl _ _).alloc (Nat.le_refl _) _
  exact ⟨HX15.out.next h6,HX25.out.next h6,grownB_below HG5.out h6,abr HO5.out h6⟩
 refine aak (fun W=>Bx W w.heap.size #[.string nm,.string sp,.slice A3 (fs.length+1) c3,.slice Am gs.length cm] 43∧Bx W (w.heap.size+1) #[.string ⟨#[]⟩,.string ⟨#[]⟩,.slice none 0 0,.slice none 0 0] 43∧w.grownBy W (Value.slice Af fs.length cf).ownBlock∧World.ownsRow W B 102 4 (Value.slice A3 (fs.length+1) c3) (fs.length+1) (fs.flatMap aab ++ aab (.fd st ty nm' (.slice A1 l.length c1) l))) F6 ?_
 clear F6 HX15 HX25 HG5 HO5
 rintro W6 ⟨x15,x25,g5,o5⟩
 have HX15:=ke x15;have HX25:=ke x25;have HG5:=ke g5;have HO5:=ke o5
 clear x15 x25 g5 o5
 obtain ⟨e0,e1,e2,e3⟩:=HX15.out.all_4
 obtain ⟨r0,r1,r2,r3⟩:=HX25.out.all_4
 have g0:=HX25.out.fro 0;have g1:=HX25.out.fro 1;have g2:=HX25.out.fro 2;have g3:=HX25.out.fro 3
 have HGX:=ke (ahi W6 (w.heap.size+1) (.string nm) (.string sp) (.slice A3 (fs.length+1) c3) (.slice Am gs.length cm))
 go_wp2_with fail
 obtain ⟨z0,z1,z2,z3⟩:=(HX25.out.to_4 (.string nm) (.string sp) (.slice A3 (fs.length+1) c3) (.slice Am gs.length cm)).all_4
 (try simp only [Exit.inBlock,Exit.then])
 refine bodyPost_ret (v:=.agg #[.string nm,.string sp,.slice A3 (fs.length+1) c3,.slice Am gs.length cm]) (by simp [results,Tryz.results75,go_sem,z0,z1,z2,z3]) rfl ?_
 have G7:=ah6 HG5.out HGX.out (by omega)
 have O7:=HO5.out.kept HGX.out (.inr (hnew.out _ (by omega) (by omega)))
 have hat7:(Value.slice A3 (fs.length+1) c3).ownBlock=(Value.slice Af fs.length cf).ownBlock∨∃ k,(Value.slice A3 (fs.length+1) c3).ownBlock=some k∧w.heap.size≤k:=HAT.out.imp id fun ⟨k,e,hk⟩=>⟨k,e,by omega⟩
 have RO:=OwnT.grow HF.out HY.out hB2 HVF.out HVM.out O7 G7 hat7 (by omega)
 refine ⟨_,rfl,RO,OwnT.step HG.out G7 (fun k hk e=>HD.out k e hk) hat7,fun k hk e=>?_,G7⟩
 rcases hat7 with e2|⟨q,e2,hq⟩
 ·exact HD.out k (e2.symm.trans hk) e
 ·rw [hk] at e2;injection e2 with e2;have:=HVM.out k e;omega
theorem with_M (w:World) (B B2:Nat) (nm sp:ByteArray) (Af Am:Option Addr) (cf cm:Nat) (fs gs:List Nd) (x:Nd) (st ct:Bool) (ty nm':ByteArray) (A1 A2:Option Addr) (c1 c2:Nat) (ps:List Pm) (l:List Nd) (hf:OwnT .fd 102 B (Value.slice Am gs.length cm).ownBlock w (Value.slice Af fs.length cf) fs) (hg:OwnT .mt 47 B (Value.slice Af fs.length cf).ownBlock w (Value.slice Am gs.length cm) gs) (hd:∀ k,(Value.slice Af fs.length cf).ownBlock=some k→(Value.slice Am gs.length cm).ownBlock≠some k)
 (hy:NK .mt B2 none w x (.mt st ct ty nm' (.slice A1 ps.length c1) ps (.slice A2 l.length c2) l)) (hB2:B≤B2) (hvf:∀ k,(Value.slice Af fs.length cf).ownBlock=some k→k < B2) (hvm:∀ k,(Value.slice Am gs.length cm).ownBlock=some k→k < B2) (hBw:B≤w.heap.size) (hB2w:B2≤w.heap.size) (hlen:gs.length≤1000001) :
 Calls Tryz.prog 75 #[.agg #[.string nm,.string sp,.slice Af fs.length cf,.slice Am gs.length cm],.iface 47 (.agg #[.bool st,.bool ct,.string ty,.string nm',.slice A1 ps.length c1,.slice A2 l.length c2])] w (WiM w B nm sp (Value.slice Af fs.length cf) (Value.slice Am gs.length cm) fs gs (.mt st ct ty nm' (.slice A1 ps.length c1) ps (.slice A2 l.length c2) l)):=by
 obtain ⟨i0,hi,hz0,hzz1,hzz2⟩:=info_parts Tryz.infoMt
 have HF:=ke hf;have HG:=ke hg;have HD:=ke hd;have HY:=ke hy;have HVF:=ke hvf;have HVM:=ke hvm
 clear hf hg hd hy hvf hvm
 obtain ⟨Wa,ha⟩:∃ W,w.alloc (.cells #[.string nm,.string sp,.slice Af fs.length cf,.slice Am gs.length cm] 43)=W:=⟨_,rfl⟩
 have ka:Below w.heap.size w Wa:=by rw [← ha];exact (Below.refl _ _).alloc (Nat.le_refl _) _
 have xa:Bx Wa w.heap.size #[.string nm,.string sp,.slice Af fs.length cf,.slice Am gs.length cm] 43:=by rw [← ha];exact Bx.new _ _ _
 have sa:Wa.heap.size=w.heap.size+1:=by rw [← ha];simp
 obtain ⟨Wb,hb⟩:∃ W,Wa.alloc (.cells #[.string ⟨#[]⟩,.string ⟨#[]⟩,.slice none 0 0,.slice none 0 0] 43)=W:=⟨_,rfl⟩
 have kb:Below Wa.heap.size Wa Wb:=by rw [← hb];exact (Below.refl _ _).alloc (Nat.le_refl _) _
 have xb:Bx Wb (w.heap.size+1) #[.string ⟨#[]⟩,.string ⟨#[]⟩,.slice none 0 0,.slice none 0 0] 43:=by rw [← hb,← sa];exact Bx.new _ _ _
 have sb:Wb.heap.size=w.heap.size+2:=by rw [← hb];simp [sa]
 obtain ⟨Wc,hc⟩:∃ W,Wb.alloc (.cells #[.bool false,.string ⟨#[]⟩,.string ⟨#[]⟩,.slice none 0 0] 102)=W:=⟨_,rfl⟩
 have kc:Below Wb.heap.size Wb Wc:=by rw [← hc];exact (Below.refl _ _).alloc (Nat.le_refl _) _
 have sc:Wc.heap.size=w.heap.size+3:=by rw [← hc];simp [sb]
 obtain ⟨Wd,hd⟩:∃ W,Wc.alloc (.cells #[.bool st,.bool ct,.string ty,.string nm',.slice A1 ps.length c1,.slice A2 l.length c2] 47)=W:=⟨_,rfl⟩
 have kd:Below Wc.heap.size Wc Wd:=by rw [← hd];exact (Below.refl _ _).alloc (Nat.le_refl _) _
 have xd:Bx Wd (w.heap.size+3) #[.bool st,.bool ct,.string ty,.string nm',.slice A1 ps.length c1,.slice A2 l.length c2] 47:=by rw [← hd,← sc];exact Bx.new _ _ _
 have sd:Wd.heap.size=w.heap.size+4:=by rw [← hd];simp [sc]
 have FACTS:Bx Wd w.heap.size #[.string nm,.string sp,.slice Af fs.length cf,.slice Am gs.length cm] 43∧Bx Wd (w.heap.size+1) #[.string ⟨#[]⟩,.string ⟨#[]⟩,.slice none 0 0,.slice none 0 0] 43∧Bx Wd (w.heap.size+3) #[.bool st,.bool ct,.string ty,.string nm',.slice A1 ps.length c1,.slice A2 l.length c2] 47∧Below w.heap.size w Wd∧Hid (Wd.heap.size=w.heap.size+4):=by
  refine ⟨((xa.next kb).next kc).next kd,(xb.next kc).next kd,xd,((ka.trans (kb.mono ka.size)).trans (kc.mono (Nat.le_trans ka.size kb.size))).trans (kd.mono (Nat.le_trans (Nat.le_trans ka.size kb.size) kc.size)),ke sd⟩
 clear xa xb xd ka kb kd sa sb sd kc sc
 subst ha hb hc hd
 go_enter Tryz.func75,Tryz.ntmps75
 go_upto_region 5 with (fail)
 refine aak (fun W=>Bx W w.heap.size #[.string nm,.string sp,.slice Af fs.length cf,.slice Am gs.length cm] 43∧Bx W (w.heap.size+1) #[.string ⟨#[]⟩,.string ⟨#[]⟩,.slice none 0 0,.slice none 0 0] 43∧Bx W (w.heap.size+3) #[.bool st,.bool ct,.string ty,.string nm',.slice A1 ps.length c1,.slice A2 l.length c2] 47∧Below w.heap.size w W∧Hid (W.heap.size=w.heap.size+4)) FACTS ?_
 clear FACTS
 rintro W ⟨x1,x2,x3,hbw,HSZ⟩
 have HX1:=ke x1;have HX2:=ke x2;have HBW:=ke hbw
 obtain ⟨c0,c1',c2',c3'⟩:=x1.all_4
 obtain ⟨y0,y1,y2,y3,y4,y5⟩:=x3.all_6
 have hba:Below W.heap.size W (W.alloc (.cells #[.bool st,.bool ct,.string ty,.string nm',.slice A1 ps.length c1,.slice A2 l.length c2] 47)):=(Below.refl _ _).alloc (Nat.le_refl _) _
 have HO2:=ke (abr (abr HG.out.1 hbw) hba)
 have HYR:=ke (OwnT.one (T:=47) ((HY.out.below hbw).mono (Nat.le_refl _)) (Nat.le_trans hB2w hbw.size))
 simp only [aab] at HYR
 have HGB:=ke (hbw.trans (hba.mono hbw.size))
 have hwz:B≤(W.alloc (.cells #[.bool st,.bool ct,.string ty,.string nm',.slice A1 ps.length c1,.slice A2 l.length c2] 47)).heap.size:=Nat.le_trans hBw (Nat.le_trans hbw.size hba.size)
 clear x1 x2 x3 hbw hba
 go_wp2_with (at_builtin;refine acw rfl (.tmp 28) (.tmp 30) 41 rfl B 47 i0 _ 6 88 Tryz.underlying41 hi hz0 hzz1 hzz2 rfl (by decide) _ _ _ rfl HO2.out B2 _ _ _ rfl HYR.out.1 HYR.out.one' ?c3 ?c4 hwz ?_)
 case c3=>unfold maxLen;simp;omega
 case c4=>simp;omega
 intro v2 w4 hown2 hgrow hat
 have hown3:w4.ownsRow B 47 6 v2 (gs.length+1) (gs.flatMap aab ++ aab (.mt st ct ty nm' (.slice A1 ps.length c1) ps (.slice A2 l.length c2) l)):=by simpa using hown2
 obtain ⟨A3,c3,rfl,_⟩:=abc hown3
 have G4:=aka HGB.out hgrow
 have hne0:∀ k,(Value.slice Am gs.length cm).ownBlock=some k→k < w.heap.size:=fun k hk=>Nat.lt_of_lt_of_le (HVM.out k hk) hB2w
 have hszz:w.heap.size+4 < (W.alloc (.cells #[.bool st,.bool ct,.string ty,.string nm',.slice A1 ps.length c1,.slice A2 l.length c2] 47)).heap.size:=by rw [World.size_alloc,HSZ.out];omega
 have kk:∀ b cs T,Bx W b cs T→w.heap.size≤b→Bx w4 b cs T:=fun b cs T hx hbb=>(hgrow.block b (hx.next ((Below.refl _ _).alloc (Nat.le_refl _) _)).lt (fun e=>by have:=hne0 b e.symm;omega)).trans (hx.next ((Below.refl _ _).alloc (Nat.le_refl _) _))
 have x1:=kk _ _ _ HX1.out (Nat.le_refl _)
 have HX24:=ke (kk _ _ _ HX2.out (by omega))
 obtain ⟨d0,d1,d2,d3⟩:=x1.all_4
 have gd:=x1.fro 3
 have HGR:=ke G4
 have HOW:=ke hown3
 have HAT:Hid ((Value.slice A3 (gs.length+1) c3).ownBlock=(Value.slice Am gs.length cm).ownBlock∨∃ k,(Value.slice A3 (gs.length+1) c3).ownBlock=some k∧w.heap.size+4 < k):=ke (hat.imp id fun e=>⟨_,e,by simpa using hszz⟩)
 have HX14:=ke x1
 have HNE0:=ke hne0
 have hnew:Hid (∀ b,w.heap.size≤b→b≤w.heap.size+4→(Value.slice A3 (gs.length+1) c3).ownBlock≠some b):=by
  show ∀ b,_
  intro b h1 h2 e
  rcases HAT.out with e2|⟨k,e2,hk⟩
  ·rw [e] at e2;have:=HNE0.out _ e2.symm;omega
  ·rw [e] at e2;injection e2 with e2;omega
 clear kk x1 hown2 hown3 hgrow hat G4 HX1 HX2 HO2 HYR hne0 hszz
 have F5:Bx (w4.setCell ⟨w.heap.size,3,none⟩ (Value.slice A3 (gs.length+1) c3)) w.heap.size #[.string nm,.string sp,.slice Af fs.length cf,.slice A3 (gs.length+1) c3] 43∧Bx (w4.setCell ⟨w.heap.size,3,none⟩ (Value.slice A3 (gs.length+1) c3)) (w.heap.size+1) #[.string ⟨#[]⟩,.string ⟨#[]⟩,.slice none 0 0,.slice none 0 0] 43∧w.grownBy (w4.setCell ⟨w.heap.size,3,none⟩ (Value.slice A3 (gs.length+1) c3)) (Value.slice Am gs.length cm).ownBlock∧World.ownsRow (w4.setCell ⟨w.heap.size,3,none⟩ (Value.slice A3 (gs.length+1) c3)) B 47 6 (Value.slice A3 (gs.length+1) c3) (gs.length+1) (gs.flatMap aab ++ aab (.mt st ct ty nm' (.slice A1 ps.length c1) ps (.slice A2 l.length c2) l)):=by
  have hg5:w4.grownBy (w4.setCell ⟨w.heap.size,3,none⟩ (Value.slice A3 (gs.length+1) c3)) (some w.heap.size):=aac _ _ _ _
  refine ⟨?_,Bx.grown HX24.out hg5 (by omega),ah6 HGR.out hg5 (Nat.le_refl _),HOW.out.kept hg5 (.inr (hnew.out _ (Nat.le_refl _) (by omega)))⟩
  have:=HX14.out.set 3 (Value.slice A3 (gs.length+1) c3)
  simpa using this
 go_upto_region 7 with (fail)
 refine aak (fun W=>Bx W w.heap.size #[.string nm,.string sp,.slice Af fs.length cf,.slice A3 (gs.length+1) c3] 43∧Bx W (w.heap.size+1) #[.string ⟨#[]⟩,.string ⟨#[]⟩,.slice none 0 0,.slice none 0 0] 43∧w.grownBy W (Value.slice Am gs.length cm).ownBlock∧World.ownsRow W B 47 6 (Value.slice A3 (gs.length+1) c3) (gs.length+1) (gs.flatMap aab ++ aab (.mt st ct ty nm' (.slice A1 ps.length c1) ps (.slice A2 l.length c2) l))) F5 ?_
 clear F5 d0 d1 d2 d3 gd HX14 HX24 HGR HOW
 rintro W5 ⟨x15,x25,g5,o5⟩
 have HX15:=ke x15;have HX25:=ke x25;have HG5:=ke g5;have HO5:=ke o5
 clear x15 x25 g5 o5
 obtain ⟨e0,e1,e2,e3⟩:=HX15.out.all_4
 obtain ⟨r0,r1,r2,r3⟩:=HX25.out.all_4
 have g0:=HX25.out.fro 0;have g1:=HX25.out.fro 1;have g2:=HX25.out.fro 2;have g3:=HX25.out.fro 3
 have HGX:=ke (ahi W5 (w.heap.size+1) (.string nm) (.string sp) (.slice Af fs.length cf) (.slice A3 (gs.length+1) c3))
 go_wp2_with fail
 obtain ⟨z0,z1,z2,z3⟩:=(HX25.out.to_4 (.string nm) (.string sp) (.slice Af fs.length cf) (.slice A3 (gs.length+1) c3)).all_4
 (try simp only [Exit.inBlock,Exit.then])
 refine bodyPost_ret (v:=.agg #[.string nm,.string sp,.slice Af fs.length cf,.slice A3 (gs.length+1) c3]) (by simp [results,Tryz.results75,go_sem,z0,z1,z2,z3]) rfl ?_
 have G7:=ah6 HG5.out HGX.out (by omega)
 have O7:=HO5.out.kept HGX.out (.inr (hnew.out _ (by omega) (by omega)))
 have hat7:(Value.slice A3 (gs.length+1) c3).ownBlock=(Value.slice Am gs.length cm).ownBlock∨∃ k,(Value.slice A3 (gs.length+1) c3).ownBlock=some k∧w.heap.size≤k:=HAT.out.imp id fun ⟨k,e,hk⟩=>⟨k,e,by omega⟩
 have RO:=OwnT.grow HG.out HY.out hB2 HVM.out HVF.out O7 G7 hat7 (by omega)
 refine ⟨_,rfl,OwnT.step HF.out G7 (fun k hk e=>HD.out k hk e) hat7,RO,fun k hk e=>?_,G7⟩
 rcases hat7 with e2|⟨q,e2,hq⟩
 ·exact HD.out k hk (e2.symm.trans e)
 ·rw [e] at e2;injection e2 with e2;have:=HVF.out k hk;omega
end
section
open Go.RowKit
theorem MbC.fd {W0 w w':World} {c:Nat} {r:Nd×RS} {e:Ending} (h:MbC W0 c w r e w') (hF:isF r.1=true):∃ (st:Bool) (ty nm:ByteArray) (A1:Option Addr) (c1:Nat) (l:List Nd),e=.returned (.iface 102 (.agg #[.bool st,.string ty,.string nm,.slice A1 l.length c1]))∧NK .fd w.heap.size none w' r.1 (.fd st ty nm (.slice A1 l.length c1) l)∧Mv W0 c r.2 w w':=by
 obtain ⟨y,hm,⟨rfl,⟨st,ty,nm,A1,c1,l,rfl⟩,hk⟩|⟨rfl,⟨st,ct,ty,nm,A1,A2,c1,c2,ps,l,rfl⟩,hk⟩⟩:=h
 ·exact ⟨st,ty,nm,A1,c1,l,rfl,hk,hm⟩
 ·exfalso
  have hb:=hk.2.2
  revert hF hb
  cases r.1<;>simp [isF,aaq]
theorem MbC.mt {W0 w w':World} {c:Nat} {r:Nd×RS} {e:Ending} (h:MbC W0 c w r e w') (hF:isF r.1=false):∃ (st ct:Bool) (ty nm:ByteArray) (A1 A2:Option Addr) (c1 c2:Nat) (ps:List Pm) (l:List Nd),e=.returned (.iface 47 (.agg #[.bool st,.bool ct,.string ty,.string nm,.slice A1 ps.length c1,.slice A2 l.length c2]))∧NK .mt w.heap.size none w' r.1 (.mt st ct ty nm (.slice A1 ps.length c1) ps (.slice A2 l.length c2) l)∧Mv W0 c r.2 w w':=by
 obtain ⟨y,hm,⟨rfl,⟨st,ty,nm,A1,c1,l,rfl⟩,hk⟩|⟨rfl,⟨st,ct,ty,nm,A1,A2,c1,c2,ps,l,rfl⟩,hk⟩⟩:=h
 ·exfalso
  have hb:=hk.2.2
  revert hF hb
  cases r.1<;>simp [isF,aaq]
 ·exact ⟨st,ct,ty,nm,A1,A2,c1,c2,ps,l,rfl,hk,hm⟩
structure ClsAt (W0 w:World) (c bc:Nat) (s:RS) (nm sp:ByteArray) (f g:List Nd) (wr:World) (Af Am:Option Addr) (cf cm:Nat) (fs gs:List Nd):Prop where
 mv:Mv W0 c s w wr
 bx:Bx wr bc #[.string nm,.string sp,.slice Af fs.length cf,.slice Am gs.length cm] 43
 rf:OwnT .fd 102 (bc+1) (Value.slice Am gs.length cm).ownBlock wr (.slice Af fs.length cf) fs
 rm:OwnT .mt 47 (bc+1) (Value.slice Af fs.length cf).ownBlock wr (.slice Am gs.length cm) gs
 ne:∀ k,(Value.slice Af fs.length cf).ownBlock=some k→(Value.slice Am gs.length cm).ownBlock≠some k
 bf:aai fs=aai f
 bg:aai gs=aai g
 hb:w.heap.size < bc
 hc:c < w.heap.size
 rb:Bx wr w.heap.size #[.string ⟨#[]⟩,.string ⟨#[]⟩,.slice none 0 0,.slice none 0 0] 43
 hle:W0.heap.size≤w.heap.size
section
variable {W0 w wr w':World} {c bc:Nat} {s s2:RS} {nm sp:ByteArray} {f g:List Nd} {Af Am:Option Addr} {cf cm:Nat} {fs gs:List Nd}
theorem ClsAt.below (h:ClsAt W0 w c bc s nm sp f g wr Af Am cf cm fs gs) (hb:Below wr.heap.size wr w'):ClsAt W0 w c bc s nm sp f g w' Af Am cf cm fs gs :=
 ⟨h.mv.trans (Mv.below hb h.mv.2),h.bx.next hb,h.rf.below hb,h.rm.below hb,h.ne,h.bf,h.bg,h.hb,h.hc,h.rb.next hb,h.hle⟩
theorem ClsAt.move (h:ClsAt W0 w c bc s nm sp f g wr Af Am cf cm fs gs) (hm:Mv W0 c s2 wr w'):ClsAt W0 w c bc s2 nm sp f g w' Af Am cf cm fs gs :=
 have h1:=h.hb
 have h2:=h.hc
 ⟨h.mv.trans hm,Bx.grown h.bx hm.1 (by omega),h.rf.grown hm.1 (by omega),h.rm.grown hm.1 (by omega),h.ne,h.bf,h.bg,h.hb,h.hc,Bx.grown h.rb hm.1 (by omega),h.hle⟩
theorem ClsAt.boxF (h:ClsAt W0 w c bc s nm sp f g wr Af Am cf cm fs gs) (hg:wr.grownBy w' (Value.slice Af fs.length cf).ownBlock):Bx w' bc #[.string nm,.string sp,.slice Af fs.length cf,.slice Am gs.length cm] 43:=by
 refine (hg.block bc h.bx.lt (fun e=>?_)).trans h.bx
 have:=(h.rf.lt bc e.symm).1
 omega
theorem ClsAt.boxM (h:ClsAt W0 w c bc s nm sp f g wr Af Am cf cm fs gs) (hg:wr.grownBy w' (Value.slice Am gs.length cm).ownBlock):Bx w' bc #[.string nm,.string sp,.slice Af fs.length cf,.slice Am gs.length cm] 43:=by
 refine (hg.block bc h.bx.lt (fun e=>?_)).trans h.bx
 have:=(h.rm.lt bc e.symm).1
 omega
theorem ClsAt.putF {x y:Nd} {A3:Option Addr} {c3:Nat} (h:ClsAt W0 w c bc s nm sp f g wr Af Am cf cm fs gs) (hy:aaq y=aaq x) (ro:OwnT .fd 102 (bc+1) (Value.slice Am gs.length cm).ownBlock w' (.slice A3 (fs ++ [y]).length c3) (fs ++ [y])) (rm:OwnT .mt 47 (bc+1) (Value.slice A3 (fs ++ [y]).length c3).ownBlock w' (.slice Am gs.length cm) gs)
 (ne:∀ k,(Value.slice A3 (fs ++ [y]).length c3).ownBlock=some k→(Value.slice Am gs.length cm).ownBlock≠some k) (hg:wr.grownBy w' (Value.slice Af fs.length cf).ownBlock) :
 ClsAt W0 w c bc s nm sp (f ++ [x]) g ((((w'.setCell ⟨bc,0,none⟩ (.string nm)).setCell ⟨bc,1,none⟩ (.string sp)).setCell ⟨bc,2,none⟩ (.slice A3 (fs ++ [y]).length c3)).setCell ⟨bc,3,none⟩ (.slice Am gs.length cm)) A3 Am c3 cm (fs ++ [y]) gs:=by
 have h1:=h.hb
 have h2:=h.hc
 have h3:=h.hle
 have hx:=h.boxF hg
 have hgg:=ahi w' bc (.string nm) (.string sp) (.slice A3 (fs ++ [y]).length c3) (.slice Am gs.length cm)
 have hmv:=Mv.row h.mv hg (fun k hk=>by have:=(h.rf.lt k hk).1;omega) (fun k hk=>by have:=(h.rf.lt k hk).1;omega) h.hc
 have hrb:Bx w' w.heap.size #[.string ⟨#[]⟩,.string ⟨#[]⟩,.slice none 0 0,.slice none 0 0] 43:=(hg.block _ h.rb.lt (fun e=>by have:=(h.rf.lt _ e.symm).1;omega)).trans h.rb
 exact ⟨Mv.over (Below.refl _ _) hmv hgg (by omega) h.hc,hx.to_4 _ _ _ _,ro.grown hgg (by omega),rm.grown hgg (by omega),ne,by rw [aap,aap,h.bf];simp only [aai];rw [hy],h.bg,h.hb,h.hc,Bx.grown hrb hgg (by omega),h.hle⟩
theorem ClsAt.putM {x y:Nd} {A3:Option Addr} {c3:Nat} (h:ClsAt W0 w c bc s nm sp f g wr Af Am cf cm fs gs) (hy:aaq y=aaq x) (rf:OwnT .fd 102 (bc+1) (Value.slice A3 (gs ++ [y]).length c3).ownBlock w' (.slice Af fs.length cf) fs) (ro:OwnT .mt 47 (bc+1) (Value.slice Af fs.length cf).ownBlock w' (.slice A3 (gs ++ [y]).length c3) (gs ++ [y]))
 (ne:∀ k,(Value.slice Af fs.length cf).ownBlock=some k→(Value.slice A3 (gs ++ [y]).length c3).ownBlock≠some k) (hg:wr.grownBy w' (Value.slice Am gs.length cm).ownBlock) :
 ClsAt W0 w c bc s nm sp f (g ++ [x]) ((((w'.setCell ⟨bc,0,none⟩ (.string nm)).setCell ⟨bc,1,none⟩ (.string sp)).setCell ⟨bc,2,none⟩ (.slice Af fs.length cf)).setCell ⟨bc,3,none⟩ (.slice A3 (gs ++ [y]).length c3)) Af A3 cf c3 fs (gs ++ [y]):=by
 have h1:=h.hb
 have h2:=h.hc
 have h3:=h.hle
 have hx:=h.boxM hg
 have hgg:=ahi w' bc (.string nm) (.string sp) (.slice Af fs.length cf) (.slice A3 (gs ++ [y]).length c3)
 have hmv:=Mv.row h.mv hg (fun k hk=>by have:=(h.rm.lt k hk).1;omega) (fun k hk=>by have:=(h.rm.lt k hk).1;omega) h.hc
 have hrb:Bx w' w.heap.size #[.string ⟨#[]⟩,.string ⟨#[]⟩,.slice none 0 0,.slice none 0 0] 43:=(hg.block _ h.rb.lt (fun e=>by have:=(h.rm.lt _ e.symm).1;omega)).trans h.rb
 exact ⟨Mv.over (Below.refl _ _) hmv hgg (by omega) h.hc,hx.to_4 _ _ _ _,rf.grown hgg (by omega),ro.grown hgg (by omega),ne,h.bf,by rw [aap,aap,h.bg];simp only [aai];rw [hy],h.hb,h.hc,Bx.grown hrb hgg (by omega),h.hle⟩
end
def CsC (W0:World) (c:Nat) (w:World) (r:Nd×RS) (e:Ending) (w':World):Prop:=∃ (nm sp:ByteArray) (Af Am:Option Addr) (cf cm:Nat) (fs gs:List Nd),e=.returned (.agg #[.string nm,.string sp,.slice Af fs.length cf,.slice Am gs.length cm])∧NK .cl w.heap.size none w' r.1 (.cl nm sp (.slice Af fs.length cf) (.slice Am gs.length cm) fs gs)∧Mv W0 c r.2 w w'
theorem class_0 (HE:abw) (HAR:adi) (W0 w:World) (c:Nat) (s:RS) (hv:Vars W0) (h:Rd W0 c s w) (hel:(kl1 s).sees 0 ae6=false):Calls Tryz.prog 42 #[.pointer (some ⟨c,0,none⟩)] w (CsC W0 c w (clsC s)):=by
 obtain ⟨R,hR⟩:∃ R,clB s=R:=⟨_,rfl⟩
 have hlc:ad6 ((kl3 s).len+1) (s.need ack).classV [] [] (kl3 s)=R:=hR
 have hnm:=ab7 (s.need ack)
 obtain ⟨nm,hnme⟩:∃ nm,(s.need ack).classV=nm:=⟨_,rfl⟩
 obtain ⟨s3,hs3⟩:∃ s3,kl3 s=s3:=⟨_,rfl⟩
 obtain ⟨s1,hs1⟩:∃ s1,kl1 s=s1:=⟨_,rfl⟩
 have e1:(s.need ack).class=s1:=hs1
 have e3:s1.need aip=s3:=by rw [← hs3,← hs1];unfold kl3 kl2;rw [if_neg (by simp [hel])]
 have hsup:clSup s=⟨#[]⟩:=by unfold clSup;rw [if_neg (by simp [hel])];rfl
 have HRE:Hid (clsC s=(.cl nm ⟨#[]⟩ (.slice none 0 0) (.slice none 0 0) R.1.1 R.1.2,R.2.need ahw)):=ke (by simp only [clsC,hR,hnme,hsup])
 obtain ⟨RR,hRR⟩:∃ RR,clsC s=RR:=⟨_,rfl⟩
 rw [hRR] at HRE ⊢
 have hlt:=h.lt
 have hle0:=h.le
 obtain ⟨W1,hW1⟩:∃ W1,w.alloc (.cells #[.string ⟨#[]⟩,.string ⟨#[]⟩,.slice none 0 0,.slice none 0 0] 43)=W1:=⟨_,rfl⟩
 have hb:Below w.heap.size w W1:=by rw [← hW1];exact (Below.refl _ w).alloc (Nat.le_refl _) _
 have hx:Bx W1 w.heap.size #[.string ⟨#[]⟩,.string ⟨#[]⟩,.slice none 0 0,.slice none 0 0] 43:=by rw [← hW1];exact Bx.new _ _ _
 have hz:W1.heap.size=w.heap.size+1:=by rw [← hW1];simp
 have HM:=ke (Mv.below hb h)
 have HB:=ke hx
 clear hb hx
 rw [hs1] at hel
 rw [hnme,hs3] at hlc
 rw [hnme] at hnm
 have HN0:Hid (∀ w',Rd W0 c (s) w'→Calls Tryz.prog 71 #[.pointer (some ⟨c,0,none⟩),.string ack] w' fun e w''=>e=.returned (.tuple #[])∧Mv W0 c (RS.need (s) ack) w' w''):=by
  show ∀ w',_
  intro w' h';exact abd W0 w' c _ ack h'
 have HC:Hid (∀ w',Rd W0 c (s.need ack) w'→Calls Tryz.prog 72 #[.pointer (some ⟨c,0,none⟩)] w' fun e w''=>e=.returned (.string (s.need ack).classV)∧Mv W0 c ((s.need ack).class) w' w''):=by
  show ∀ w',_
  intro w' h';exact acv W0 w' c _ h'
 rw [hnme,e1] at HC
 have HT:Hid (∀ w',Rd W0 c (s1) w'→Calls Tryz.prog 73 #[.pointer (some ⟨c,0,none⟩),.string ae6] w' fun e w''=>e=.returned (.bool false)∧w'=w''):=by
  show ∀ w',_
  intro w' h';exact aaa W0 w' c s1 ae6 h' hel
 have HN1:Hid (∀ w',Rd W0 c (s1) w'→Calls Tryz.prog 71 #[.pointer (some ⟨c,0,none⟩),.string aip] w' fun e w''=>e=.returned (.tuple #[])∧Mv W0 c (RS.need (s1) aip) w' w''):=by
  show ∀ w',_
  intro w' h';exact abd W0 w' c _ aip h'
 rw [e3] at HN1
 have HN2:Hid (∀ w',Rd W0 c (R.2) w'→Calls Tryz.prog 71 #[.pointer (some ⟨c,0,none⟩),.string ahw] w' fun e w''=>e=.returned (.tuple #[])∧Mv W0 c (RS.need (R.2) ahw) w' w''):=by
  show ∀ w',_
  intro w' h';exact abd W0 w' c _ ahw h'
 have HMB:Hid (∀ s' w',Rd W0 c s' w'→Calls Tryz.prog 76 #[.pointer (some ⟨c,0,none⟩),.string nm] w' (MbC W0 c w' (af0 nm s'))):=by
  show ∀ s' w',_
  intro s' w' h';exact member_any HE HAR W0 w' c s' nm hv h'
 have HLC:=ke hlc
 clear hRR hR hlc hnme hs3 hs1 e1 e3 hsup h hv HE HAR hel
 go_enter Tryz.func42,Tryz.ntmps42
 go_wp2_with fail
 refine (HN0.out _ HM.out.2).mono ?_
 clear HN0 hW1
 rintro e w2 ⟨rfl,hm⟩
 replace HM:=ke (HM.out.trans hm)
 replace HB:=ke (Bx.grown HB.out hm.1 (by omega))
 have hs2:=hm.1.size
 clear hm
 go_wp2_with fail
 refine (HC.out _ HM.out.2).mono ?_
 clear HC
 rintro e w3 ⟨rfl,hm⟩
 replace HM:=ke (HM.out.trans hm)
 replace HB:=ke (Bx.grown HB.out hm.1 (by omega))
 have hs3:=hm.1.size
 clear hm
 obtain ⟨W4,hW4⟩:∃ W,w3.alloc (.cells #[.string nm,.string ⟨#[]⟩,.slice none 0 0,.slice none 0 0] 43)=W:=⟨_,rfl⟩
 have hb:Below w3.heap.size w3 W4:=by rw [← hW4];exact (Below.refl _ _).alloc (Nat.le_refl _) _
 have HL:Hid (Bx W4 w3.heap.size #[.string nm,.string ⟨#[]⟩,.slice none 0 0,.slice none 0 0] 43):=ke (by rw [← hW4];exact Bx.new _ _ _)
 have hz4:W4.heap.size=w3.heap.size+1:=by rw [← hW4];simp
 replace HM:=ke (HM.out.trans (Mv.below hb HM.out.2))
 replace HB:=ke (HB.out.next hb)
 clear hb
 subst hW4
 go_wp2_with fail
 refine (HT.out _ HM.out.2).mono ?_
 clear HT
 rintro e w5 ⟨rfl,rfl⟩
 go_wp2_with fail
 refine (HN1.out _ HM.out.2).mono ?_
 clear HN1
 rintro e w8 ⟨rfl,hm⟩
 replace HM:=ke (HM.out.trans hm)
 replace HB:=ke (Bx.grown HB.out hm.1 (by omega))
 replace HL:=ke (Bx.grown HL.out hm.1 (by omega))
 clear hm
 have hsp:(⟨#[]⟩:ByteArray).size≤maxLen:=Nat.zero_le _
 have HCA:Hid (ClsAt W0 w c w3.heap.size s3 nm ⟨#[]⟩ [] [] w8 none none 0 0 [] []):=ke ⟨HM.out,HL.out,OwnT.nil,OwnT.nil,by simp [Value.ownBlock],rfl,rfl,by omega,hlt,HB.out,hle0⟩
 have hfew:=HM.out.2.few
 have hbc:w.heap.size < w3.heap.size:=by omega
 clear HM HL HB
 obtain ⟨sl,hsl⟩:∃ sl,s3.len=sl:=⟨_,rfl⟩
 rw [hsl] at HLC hfew
 go_wp2_with fail
 go_loopw [17] (fun v17 wr=>∃ (m:Nat) (f g:List Nd) (s':RS) (Af Am:Option Addr) (cf cm:Nat) (fs gs:List Nd),ad6 m nm f g s'=R∧s'.len < m∧ClsAt W0 w c w3.heap.size s' nm ⟨#[]⟩ f g wr Af Am cf cm fs gs∧fs.length+gs.length+s'.len≤1000001) (fun v17 wr=>lenAt wr c)
 case atStart=>exact ⟨sl+1,[],[],s3,none,none,0,0,[],[],HLC.out,by omega,HCA.out,by simp;omega⟩
 case round =>
  obtain ⟨m,f,g,s',Af,Am,cf,cm,fs,gs,hrun,hen,hca,hbd⟩:=hrel
  obtain ⟨m,rfl⟩:∃ m',m=m'+1:=⟨m - 1,by omega⟩
  have HU:=ke (ais W0 wr c s' ahw hca.mv.2)
  have hla:=abe hca.mv.2
  have HCB:=ke hca
  cases hun:s'.until ahw with
  | false =>
   have hR:ad6 (m+1) nm f g s'=((f,g),s'):=by simp only [ad6,hun];simp
   rw [hR] at hrun
   rw [hun] at HU
   subst hrun
   clear hR hun hca hla hen hbd
   go_wp2_with fail
   refine HU.out.mono ?_
   clear HU
   rintro e w9 ⟨rfl,rfl⟩
   go_wp2_with fail
   refine (HN2.out _ HCB.out.mv.2).mono ?_
   clear HN2
   rintro e w10 ⟨rfl,hm⟩
   have HC1:=ke (HCB.out.move hm)
   clear hm
   obtain ⟨y0,y1,y2,y3⟩:=HC1.out.bx.all_4
   obtain ⟨r0,r1,r2,r3⟩:=HC1.out.rb.all_4
   have g0:=HC1.out.rb.fro 0;have g1:=HC1.out.rb.fro 1;have g2:=HC1.out.rb.fro 2;have g3:=HC1.out.rb.fro 3
   have HG:=ke (ahi w10 w.heap.size (.string nm) (.string ⟨#[]⟩) (.slice Af fs.length cf) (.slice Am gs.length cm))
   go_wp2_with fail
   obtain ⟨z0,z1,z2,z3⟩:=(HC1.out.rb.to_4 (.string nm) (.string ⟨#[]⟩) (.slice Af fs.length cf) (.slice Am gs.length cm)).all_4
   (try simp only [Exit.inBlock,Exit.then])
   refine bodyPost_ret (v:=.agg #[.string nm,.string ⟨#[]⟩,.slice Af fs.length cf,.slice Am gs.length cm]) (by simp [results,Tryz.results42,go_sem,z0,z1,z2,z3]) rfl ?_
   rw [HRE.out]
   exact ⟨nm,⟨#[]⟩,Af,Am,cf,cm,fs,gs,rfl,((cl_node (B:=w3.heap.size+1) ⟨hnm,hsp⟩ HC1.out.rf.fk HC1.out.rm.fk HC1.out.bf HC1.out.bg).grown HG.out (.inl (by omega))).mono (by omega),Mv.over (Below.refl _ _) HC1.out.mv HG.out (Nat.le_refl _) hlt⟩
  | true =>
   rw [hun] at HU
   obtain ⟨q,hq⟩:∃ q,af0 nm s'=q:=⟨_,rfl⟩
   have h1:1≤s'.len:=by
    cases hw:s'.ws with
    | nil=>simp [RS.until,hw] at hun
    | cons x l=>simp [RS.len,hw]
   have h3:q.2.len≤s'.len - 1:=by rw [← hq];exact len_memM nm s'
   have HMQ:=ke (HMB.out s' wr.drew hca.mv.2.drew)
   rw [hq] at HMQ
   have HCD:=ke (hca.below (Below.refl _ wr).drew)
   obtain ⟨y0,y1,y2,y3⟩:=hca.bx.all_4
   cases hF:isF q.1 with
   | true =>
    have hR:ad6 (m+1) nm f g s'=ad6 m nm (f ++ [q.1]) g q.2:=by simp only [ad6,hun,hq,hF];simp
    rw [hR] at hrun
    have HRUN:=ke hrun
    have hsw:wr.drew.heap.size=wr.heap.size:=rfl
    have hbl:=hca.bx.lt
    clear hR hrun hq hca hun
    go_wp2_with fail
    refine HU.out.mono ?_
    clear HU
    rintro e w9 ⟨rfl,rfl⟩
    go_wp2_with fail
    go_region_law (go_simp;go_wp2_with (first|(go_at_call 76;refine HMQ.out.mono ?_;intro e w5 hmb;obtain ⟨st,ty,nm',A1,c1,l,rfl,hk,hm⟩:=MbC.fd hmb hF;clear hmb;have HC5:=ke (HCD.out.move hm);have HK5:=ke hk;have HBQ:=ke hk.2.2;have hsz5:=hm.1.size;obtain ⟨b0,b1,b2,b3⟩:=HC5.out.bx.all_4;have HWI:=ke (with_F w5 (w3.heap.size+1) wr.drew.heap.size nm ⟨#[]⟩ Af Am cf cm fs gs q.1 st ty nm' A1 c1 l HC5.out.rf HC5.out.rm HC5.out.ne HK5.out (by omega) (fun k hk=>(HCD.out.rf.lt k hk).2) (fun k hk=>(HCD.out.rm.lt k hk).2) (by omega) hsz5 (by omega));clear hm hk)|(go_at_call 75;refine HWI.out.mono ?_;rintro e w7 ⟨v',rfl,ro,rm,hne,hg⟩;obtain ⟨A3,c3,rfl⟩:=ro.form;have HXB:=ke (HC5.out.boxF hg);have HPUT:=ke (HC5.out.putF HBQ.out ro rm hne hg);simp only [List.length_append,List.length_cons,List.length_nil,Nat.zero_add] at HPUT;clear HWI;obtain ⟨d0,d1,d2,d3⟩:=HXB.out.all_4;have g0:=HXB.out.fro 0;have g1:=HXB.out.fro 1;have g2:=HXB.out.fro 2;have g3:=HXB.out.fro 3;clear ro rm hne hg)))
    all_goals
     go_wp2_with fail
     go_roundw
     case rel=>exact ⟨m,_,_,q.2,_,_,_,_,_,_,HRUN.out,by omega,HPUT.out,by simp;omega⟩
     case measure=>(refine Nat.lt_of_le_of_lt (Nat.le_of_eq (abe HPUT.out.mv.2)) ?_;rw [hla];omega)
   | false =>
    have hR:ad6 (m+1) nm f g s'=ad6 m nm f (g ++ [q.1]) q.2:=by simp only [ad6,hun,hq,hF];simp
    rw [hR] at hrun
    have HRUN:=ke hrun
    have hsw:wr.drew.heap.size=wr.heap.size:=rfl
    have hbl:=hca.bx.lt
    clear hR hrun hq hca hun
    go_wp2_with fail
    refine HU.out.mono ?_
    clear HU
    rintro e w9 ⟨rfl,rfl⟩
    go_wp2_with fail
    go_region_law (go_simp;go_wp2_with (first|(go_at_call 76;refine HMQ.out.mono ?_;intro e w5 hmb;obtain ⟨st,ct,ty,nm',A1,A2,c1,c2,ps,l,rfl,hk,hm⟩:=MbC.mt hmb hF;clear hmb;have HC5:=ke (HCD.out.move hm);have HK5:=ke hk;have HBQ:=ke hk.2.2;have hsz5:=hm.1.size;obtain ⟨b0,b1,b2,b3⟩:=HC5.out.bx.all_4;have HWI:=ke (with_M w5 (w3.heap.size+1) wr.drew.heap.size nm ⟨#[]⟩ Af Am cf cm fs gs q.1 st ct ty nm' A1 A2 c1 c2 ps l HC5.out.rf HC5.out.rm HC5.out.ne HK5.out (by omega) (fun k hk=>(HCD.out.rf.lt k hk).2) (fun k hk=>(HCD.out.rm.lt k hk).2) (by omega) hsz5 (by omega));clear hm hk)|(go_at_call 75;refine HWI.out.mono ?_;rintro e w7 ⟨v',rfl,rf,ro,hne,hg⟩;obtain ⟨A3,c3,rfl⟩:=ro.form;have HXB:=ke (HC5.out.boxM hg);have HPUT:=ke (HC5.out.putM HBQ.out rf ro hne hg);simp only [List.length_append,List.length_cons,List.length_nil,Nat.zero_add] at HPUT;clear HWI;obtain ⟨d0,d1,d2,d3⟩:=HXB.out.all_4;have g0:=HXB.out.fro 0;have g1:=HXB.out.fro 1;have g2:=HXB.out.fro 2;have g3:=HXB.out.fro 3;clear ro rf hne hg)))
    all_goals
     go_wp2_with fail
     go_roundw
     case rel=>exact ⟨m,_,_,q.2,_,_,_,_,_,_,HRUN.out,by omega,HPUT.out,by simp;omega⟩
     case measure=>(refine Nat.lt_of_le_of_lt (Nat.le_of_eq (abe HPUT.out.mv.2)) ?_;rw [hla];omega)
theorem class_1 (HE:abw) (HAR:adi) (W0 w:World) (c:Nat) (s:RS) (hv:Vars W0) (h:Rd W0 c s w) (hel:(kl1 s).sees 0 ae6=true):Calls Tryz.prog 42 #[.pointer (some ⟨c,0,none⟩)] w (CsC W0 c w (clsC s)):=by
 obtain ⟨R,hR⟩:∃ R,clB s=R:=⟨_,rfl⟩
 have hlc:ad6 ((kl3 s).len+1) (s.need ack).classV [] [] (kl3 s)=R:=hR
 have hnm:=ab7 (s.need ack)
 obtain ⟨nm,hnme⟩:∃ nm,(s.need ack).classV=nm:=⟨_,rfl⟩
 obtain ⟨s3,hs3⟩:∃ s3,kl3 s=s3:=⟨_,rfl⟩
 obtain ⟨s1,hs1⟩:∃ s1,kl1 s=s1:=⟨_,rfl⟩
 have e1:(s.need ack).class=s1:=hs1
 have e3:s1.skip.class.need aip=s3:=by rw [← hs3,← hs1];unfold kl3 kl2;rw [if_pos hel]
 have hsup:clSup s=s1.skip.classV:=by unfold clSup;rw [if_pos hel,hs1]
 have hsp:=ab7 s1.skip
 obtain ⟨sp,hspe⟩:∃ sp,s1.skip.classV=sp:=⟨_,rfl⟩
 rw [hspe] at hsup hsp
 have HRE:Hid (clsC s=(.cl nm sp (.slice none 0 0) (.slice none 0 0) R.1.1 R.1.2,R.2.need ahw)):=ke (by simp only [clsC,hR,hnme,hsup])
 obtain ⟨RR,hRR⟩:∃ RR,clsC s=RR:=⟨_,rfl⟩
 rw [hRR] at HRE ⊢
 have hlt:=h.lt
 have hle0:=h.le
 obtain ⟨W1,hW1⟩:∃ W1,w.alloc (.cells #[.string ⟨#[]⟩,.string ⟨#[]⟩,.slice none 0 0,.slice none 0 0] 43)=W1:=⟨_,rfl⟩
 have hb:Below w.heap.size w W1:=by rw [← hW1];exact (Below.refl _ w).alloc (Nat.le_refl _) _
 have hx:Bx W1 w.heap.size #[.string ⟨#[]⟩,.string ⟨#[]⟩,.slice none 0 0,.slice none 0 0] 43:=by rw [← hW1];exact Bx.new _ _ _
 have hz:W1.heap.size=w.heap.size+1:=by rw [← hW1];simp
 have HM:=ke (Mv.below hb h)
 have HB:=ke hx
 clear hb hx
 rw [hs1] at hel
 rw [hnme,hs3] at hlc
 rw [hnme] at hnm
 have HN0:Hid (∀ w',Rd W0 c (s) w'→Calls Tryz.prog 71 #[.pointer (some ⟨c,0,none⟩),.string ack] w' fun e w''=>e=.returned (.tuple #[])∧Mv W0 c (RS.need (s) ack) w' w''):=by
  show ∀ w',_
  intro w' h';exact abd W0 w' c _ ack h'
 have HC:Hid (∀ w',Rd W0 c (s.need ack) w'→Calls Tryz.prog 72 #[.pointer (some ⟨c,0,none⟩)] w' fun e w''=>e=.returned (.string (s.need ack).classV)∧Mv W0 c ((s.need ack).class) w' w''):=by
  show ∀ w',_
  intro w' h';exact acv W0 w' c _ h'
 rw [hnme,e1] at HC
 have HT:Hid (∀ w',Rd W0 c (s1) w'→Calls Tryz.prog 73 #[.pointer (some ⟨c,0,none⟩),.string ae6] w' fun e w''=>e=.returned (.bool true)∧Mv W0 c (RS.skip (s1)) w' w''):=by
  show ∀ w',_
  intro w' h';exact aa3 W0 w' c s1 ae6 h' hel
 have HC2:Hid (∀ w',Rd W0 c (s1.skip) w'→Calls Tryz.prog 72 #[.pointer (some ⟨c,0,none⟩)] w' fun e w''=>e=.returned (.string s1.skip.classV)∧Mv W0 c (s1.skip.class) w' w''):=by
  show ∀ w',_
  intro w' h';exact acv W0 w' c _ h'
 rw [hspe] at HC2
 have HN1:Hid (∀ w',Rd W0 c (s1.skip.class) w'→Calls Tryz.prog 71 #[.pointer (some ⟨c,0,none⟩),.string aip] w' fun e w''=>e=.returned (.tuple #[])∧Mv W0 c (RS.need (s1.skip.class) aip) w' w''):=by
  show ∀ w',_
  intro w' h';exact abd W0 w' c _ aip h'
 rw [e3] at HN1
 have HN2:Hid (∀ w',Rd W0 c (R.2) w'→Calls Tryz.prog 71 #[.pointer (some ⟨c,0,none⟩),.string ahw] w' fun e w''=>e=.returned (.tuple #[])∧Mv W0 c (RS.need (R.2) ahw) w' w''):=by
  show ∀ w',_
  intro w' h';exact abd W0 w' c _ ahw h'
 have HMB:Hid (∀ s' w',Rd W0 c s' w'→Calls Tryz.prog 76 #[.pointer (some ⟨c,0,none⟩),.string nm] w' (MbC W0 c w' (af0 nm s'))):=by
  show ∀ s' w',_
  intro s' w' h';exact member_any HE HAR W0 w' c s' nm hv h'
 have HLC:=ke hlc
 clear hRR hR hlc hnme hs3 hs1 e1 e3 hsup h hv HE HAR hel hspe
 go_enter Tryz.func42,Tryz.ntmps42
 go_wp2_with fail
 refine (HN0.out _ HM.out.2).mono ?_
 clear HN0 hW1
 rintro e w2 ⟨rfl,hm⟩
 replace HM:=ke (HM.out.trans hm)
 replace HB:=ke (Bx.grown HB.out hm.1 (by omega))
 have hs2:=hm.1.size
 clear hm
 go_wp2_with fail
 refine (HC.out _ HM.out.2).mono ?_
 clear HC
 rintro e w3 ⟨rfl,hm⟩
 replace HM:=ke (HM.out.trans hm)
 replace HB:=ke (Bx.grown HB.out hm.1 (by omega))
 have hs3:=hm.1.size
 clear hm
 obtain ⟨W4,hW4⟩:∃ W,w3.alloc (.cells #[.string nm,.string ⟨#[]⟩,.slice none 0 0,.slice none 0 0] 43)=W:=⟨_,rfl⟩
 have hb:Below w3.heap.size w3 W4:=by rw [← hW4];exact (Below.refl _ _).alloc (Nat.le_refl _) _
 have HL:Hid (Bx W4 w3.heap.size #[.string nm,.string ⟨#[]⟩,.slice none 0 0,.slice none 0 0] 43):=ke (by rw [← hW4];exact Bx.new _ _ _)
 have hz4:W4.heap.size=w3.heap.size+1:=by rw [← hW4];simp
 replace HM:=ke (HM.out.trans (Mv.below hb HM.out.2))
 replace HB:=ke (HB.out.next hb)
 clear hb
 subst hW4
 go_wp2_with fail
 refine (HT.out _ HM.out.2).mono ?_
 clear HT
 rintro e w5 ⟨rfl,hm⟩
 replace HM:=ke (HM.out.trans hm)
 replace HB:=ke (Bx.grown HB.out hm.1 (by omega))
 replace HL:=ke (Bx.grown HL.out hm.1 (by omega))
 have hs5:=hm.1.size
 clear hm
 go_wp2_with fail
 refine (HC2.out _ HM.out.2).mono ?_
 clear HC2
 rintro e w6 ⟨rfl,hm⟩
 replace HM:=ke (HM.out.trans hm)
 replace HB:=ke (Bx.grown HB.out hm.1 (by omega))
 replace HL:=ke (Bx.grown HL.out hm.1 (by omega))
 have hs6:=hm.1.size
 clear hm
 obtain ⟨x0,x1,x2,x3⟩:=HL.out.all_4
 have gx1:=HL.out.fro 1
 obtain ⟨W7,hW7⟩:∃ W,w6.setCell ⟨w3.heap.size,1,none⟩ (.string sp)=W:=⟨_,rfl⟩
 have hg:w6.grownBy W7 (some w3.heap.size):=by rw [← hW7];exact aac _ _ _ _
 have hl2:Bx W7 w3.heap.size #[.string nm,.string sp,.slice none 0 0,.slice none 0 0] 43:=by
  rw [← hW7]
  have:=HL.out.set 1 (.string sp)
  simpa using this
 replace HM:=ke (Mv.over (Below.refl _ _) HM.out hg (by omega) hlt)
 replace HB:=ke (Bx.grown HB.out hg (by omega))
 replace HL:=ke hl2
 have hs7:=hg.size
 clear hl2 hg
 go_wp2_with fail
 refine (HN1.out _ HM.out.2).mono ?_
 clear HN1 hW7 x0 x1 x2 x3 gx1
 rintro e w8 ⟨rfl,hm⟩
 replace HM:=ke (HM.out.trans hm)
 replace HB:=ke (Bx.grown HB.out hm.1 (by omega))
 replace HL:=ke (Bx.grown HL.out hm.1 (by omega))
 clear hm
 have HCA:Hid (ClsAt W0 w c w3.heap.size s3 nm sp [] [] w8 none none 0 0 [] []):=ke ⟨HM.out,HL.out,OwnT.nil,OwnT.nil,by simp [Value.ownBlock],rfl,rfl,by omega,hlt,HB.out,hle0⟩
 have hfew:=HM.out.2.few
 have hbc:w.heap.size < w3.heap.size:=by omega
 clear HM HL HB
 obtain ⟨sl,hsl⟩:∃ sl,s3.len=sl:=⟨_,rfl⟩
 rw [hsl] at HLC hfew
 go_wp2_with fail
 go_loopw [17] (fun v17 wr=>∃ (m:Nat) (f g:List Nd) (s':RS) (Af Am:Option Addr) (cf cm:Nat) (fs gs:List Nd),ad6 m nm f g s'=R∧s'.len < m∧ClsAt W0 w c w3.heap.size s' nm sp f g wr Af Am cf cm fs gs∧fs.length+gs.length+s'.len≤1000001) (fun v17 wr=>lenAt wr c)
 case atStart=>exact ⟨sl+1,[],[],s3,none,none,0,0,[],[],HLC.out,by omega,HCA.out,by simp;omega⟩
 case round =>
  obtain ⟨m,f,g,s',Af,Am,cf,cm,fs,gs,hrun,hen,hca,hbd⟩:=hrel
  obtain ⟨m,rfl⟩:∃ m',m=m'+1:=⟨m - 1,by omega⟩
  have HU:=ke (ais W0 wr c s' ahw hca.mv.2)
  have hla:=abe hca.mv.2
  have HCB:=ke hca
  cases hun:s'.until ahw with
  | false =>
   have hR:ad6 (m+1) nm f g s'=((f,g),s'):=by simp only [ad6,hun];simp
   rw [hR] at hrun
   rw [hun] at HU
   subst hrun
   clear hR hun hca hla hen hbd
   go_wp2_with fail
   refine HU.out.mono ?_
   clear HU
   rintro e w9 ⟨rfl,rfl⟩
   go_wp2_with fail
   refine (HN2.out _ HCB.out.mv.2).mono ?_
   clear HN2
   rintro e w10 ⟨rfl,hm⟩
   have HC1:=ke (HCB.out.move hm)
   clear hm
   obtain ⟨y0,y1,y2,y3⟩:=HC1.out.bx.all_4
   obtain ⟨r0,r1,r2,r3⟩:=HC1.out.rb.all_4
   have g0:=HC1.out.rb.fro 0;have g1:=HC1.out.rb.fro 1;have g2:=HC1.out.rb.fro 2;have g3:=HC1.out.rb.fro 3
   have HG:=ke (ahi w10 w.heap.size (.string nm) (.string sp) (.slice Af fs.length cf) (.slice Am gs.length cm))
   go_wp2_with fail
   obtain ⟨z0,z1,z2,z3⟩:=(HC1.out.rb.to_4 (.string nm) (.string sp) (.slice Af fs.length cf) (.slice Am gs.length cm)).all_4
   (try simp only [Exit.inBlock,Exit.then])
   refine bodyPost_ret (v:=.agg #[.string nm,.string sp,.slice Af fs.length cf,.slice Am gs.length cm]) (by simp [results,Tryz.results42,go_sem,z0,z1,z2,z3]) rfl ?_
   rw [HRE.out]
   exact ⟨nm,sp,Af,Am,cf,cm,fs,gs,rfl,((cl_node (B:=w3.heap.size+1) ⟨hnm,hsp⟩ HC1.out.rf.fk HC1.out.rm.fk HC1.out.bf HC1.out.bg).grown HG.out (.inl (by omega))).mono (by omega),Mv.over (Below.refl _ _) HC1.out.mv HG.out (Nat.le_refl _) hlt⟩
  | true =>
   rw [hun] at HU
   obtain ⟨q,hq⟩:∃ q,af0 nm s'=q:=⟨_,rfl⟩
   have h1:1≤s'.len:=by
    cases hw:s'.ws with
    | nil=>simp [RS.until,hw] at hun
    | cons x l=>simp [RS.len,hw]
   have h3:q.2.len≤s'.len - 1:=by rw [← hq];exact len_memM nm s'
   have HMQ:=ke (HMB.out s' wr.drew hca.mv.2.drew)
   rw [hq] at HMQ
   have HCD:=ke (hca.below (Below.refl _ wr).drew)
   obtain ⟨y0,y1,y2,y3⟩:=hca.bx.all_4
   cases hF:isF q.1 with
   | true =>
    have hR:ad6 (m+1) nm f g s'=ad6 m nm (f ++ [q.1]) g q.2:=by simp only [ad6,hun,hq,hF];simp
    rw [hR] at hrun
    have HRUN:=ke hrun
    have hsw:wr.drew.heap.size=wr.heap.size:=rfl
    have hbl:=hca.bx.lt
    clear hR hrun hq hca hun
    go_wp2_with fail
    refine HU.out.mono ?_
    clear HU
    rintro e w9 ⟨rfl,rfl⟩
    go_wp2_with fail
    go_region_law (go_simp;go_wp2_with (first|(go_at_call 76;refine HMQ.out.mono ?_;intro e w5 hmb;obtain ⟨st,ty,nm',A1,c1,l,rfl,hk,hm⟩:=MbC.fd hmb hF;clear hmb;have HC5:=ke (HCD.out.move hm);have HK5:=ke hk;have HBQ:=ke hk.2.2;have hsz5:=hm.1.size;obtain ⟨b0,b1,b2,b3⟩:=HC5.out.bx.all_4;have HWI:=ke (with_F w5 (w3.heap.size+1) wr.drew.heap.size nm sp Af Am cf cm fs gs q.1 st ty nm' A1 c1 l HC5.out.rf HC5.out.rm HC5.out.ne HK5.out (by omega) (fun k hk=>(HCD.out.rf.lt k hk).2) (fun k hk=>(HCD.out.rm.lt k hk).2) (by omega) hsz5 (by omega));clear hm hk)|(go_at_call 75;refine HWI.out.mono ?_;rintro e w7 ⟨v',rfl,ro,rm,hne,hg⟩;obtain ⟨A3,c3,rfl⟩:=ro.form;have HXB:=ke (HC5.out.boxF hg);have HPUT:=ke (HC5.out.putF HBQ.out ro rm hne hg);simp only [List.length_append,List.length_cons,List.length_nil,Nat.zero_add] at HPUT;clear HWI;obtain ⟨d0,d1,d2,d3⟩:=HXB.out.all_4;have g0:=HXB.out.fro 0;have g1:=HXB.out.fro 1;have g2:=HXB.out.fro 2;have g3:=HXB.out.fro 3;clear ro rm hne hg)))
    all_goals
     go_wp2_with fail
     go_roundw
     case rel=>exact ⟨m,_,_,q.2,_,_,_,_,_,_,HRUN.out,by omega,HPUT.out,by simp;omega⟩
     case measure=>(refine Nat.lt_of_le_of_lt (Nat.le_of_eq (abe HPUT.out.mv.2)) ?_;rw [hla];omega)
   | false =>
    have hR:ad6 (m+1) nm f g s'=ad6 m nm f (g ++ [q.1]) q.2:=by simp only [ad6,hun,hq,hF];simp
    rw [hR] at hrun
    have HRUN:=ke hrun
    have hsw:wr.drew.heap.size=wr.heap.size:=rfl
    have hbl:=hca.bx.lt
    clear hR hrun hq hca hun
    go_wp2_with fail
    refine HU.out.mono ?_
    clear HU
    rintro e w9 ⟨rfl,rfl⟩
    go_wp2_with fail
    go_region_law (go_simp;go_wp2_with (first|(go_at_call 76;refine HMQ.out.mono ?_;intro e w5 hmb;obtain ⟨st,ct,ty,nm',A1,A2,c1,c2,ps,l,rfl,hk,hm⟩:=MbC.mt hmb hF;clear hmb;have HC5:=ke (HCD.out.move hm);have HK5:=ke hk;have HBQ:=ke hk.2.2;have hsz5:=hm.1.size;obtain ⟨b0,b1,b2,b3⟩:=HC5.out.bx.all_4;have HWI:=ke (with_M w5 (w3.heap.size+1) wr.drew.heap.size nm sp Af Am cf cm fs gs q.1 st ct ty nm' A1 A2 c1 c2 ps l HC5.out.rf HC5.out.rm HC5.out.ne HK5.out (by omega) (fun k hk=>(HCD.out.rf.lt k hk).2) (fun k hk=>(HCD.out.rm.lt k hk).2) (by omega) hsz5 (by omega));clear hm hk)|(go_at_call 75;refine HWI.out.mono ?_;rintro e w7 ⟨v',rfl,rf,ro,hne,hg⟩;obtain ⟨A3,c3,rfl⟩:=ro.form;have HXB:=ke (HC5.out.boxM hg);have HPUT:=ke (HC5.out.putM HBQ.out rf ro hne hg);simp only [List.length_append,List.length_cons,List.length_nil,Nat.zero_add] at HPUT;clear HWI;obtain ⟨d0,d1,d2,d3⟩:=HXB.out.all_4;have g0:=HXB.out.fro 0;have g1:=HXB.out.fro 1;have g2:=HXB.out.fro 2;have g3:=HXB.out.fro 3;clear ro rf hne hg)))
    all_goals
     go_wp2_with fail
     go_roundw
     case rel=>exact ⟨m,_,_,q.2,_,_,_,_,_,_,HRUN.out,by omega,HPUT.out,by simp;omega⟩
     case measure=>(refine Nat.lt_of_le_of_lt (Nat.le_of_eq (abe HPUT.out.mv.2)) ?_;rw [hla];omega)
theorem class_all (HE:abw) (HAR:adi) (W0 w:World) (c:Nat) (s:RS) (hv:Vars W0) (h:Rd W0 c s w):Calls Tryz.prog 42 #[.pointer (some ⟨c,0,none⟩)] w (CsC W0 c w (clsC s)):=by
 cases hel:(kl1 s).sees 0 ae6 with
 | false=>exact class_0 HE HAR W0 w c s hv h hel
 | true=>exact class_1 HE HAR W0 w c s hv h hel
end
section
open Go.RowKit
def PgC (W0:World) (c:Nat) (w:World) (r:List Nd×RS) (e:Ending) (w':World):Prop:=∃ (A:Option Addr) (cap:Nat) (ys:List Nd),e=.returned (.agg #[.slice A ys.length cap])∧FkL w.heap.size w' .cl (.slice A ys.length cap) ys∧aai ys=aai r.1∧Mv W0 c r.2 w w'
structure PrgAt (W0 w:World) (c:Nat) (s:RS) (acc:List Nd) (wr:World) (A:Option Addr) (cap:Nat) (ys:List Nd):Prop where
 mv:Mv W0 c s w wr
 bx:Bx wr (w.heap.size+1) #[.slice A ys.length cap] 27
 rw':OwnT .cl 43 (w.heap.size+2) none wr (.slice A ys.length cap) ys
 bq:aai ys=aai acc
 hc:c < w.heap.size
 rb:Bx wr w.heap.size #[.slice none 0 0] 27
 hle:W0.heap.size≤w.heap.size
section
variable {W0 w wr w':World} {c:Nat} {s s2:RS} {acc:List Nd} {A:Option Addr} {cap:Nat} {ys:List Nd}
theorem PrgAt.below (h:PrgAt W0 w c s acc wr A cap ys) (hb:Below wr.heap.size wr w'):PrgAt W0 w c s acc w' A cap ys :=
 ⟨h.mv.trans (Mv.below hb h.mv.2),h.bx.next hb,h.rw'.below hb,h.bq,h.hc,h.rb.next hb,h.hle⟩
theorem PrgAt.move (h:PrgAt W0 w c s acc wr A cap ys) (hm:Mv W0 c s2 wr w'):PrgAt W0 w c s2 acc w' A cap ys :=
 have h2:=h.hc
 ⟨h.mv.trans hm,Bx.grown h.bx hm.1 (by omega),h.rw'.grown hm.1 (by omega),h.bq,h.hc,Bx.grown h.rb hm.1 (by omega),h.hle⟩
theorem PrgAt.box (h:PrgAt W0 w c s acc wr A cap ys) (hg:wr.grownBy w' (Value.slice A ys.length cap).ownBlock):Bx w' (w.heap.size+1) #[.slice A ys.length cap] 27:=by
 refine (hg.block _ h.bx.lt (fun e=>?_)).trans h.bx
 have:=(h.rw'.lt _ e.symm).1
 omega
theorem PrgAt.put {x y:Nd} {A3:Option Addr} {c3 n:Nat} (h:PrgAt W0 w c s acc wr A cap ys) (hy:aaq y=aaq x) (ro:OwnT .cl 43 (w.heap.size+2) none w' (.slice A3 n c3) (ys ++ [y])) (hg:wr.grownBy w' (Value.slice A ys.length cap).ownBlock) (hn:n=(ys ++ [y]).length) :
 PrgAt W0 w c s (acc ++ [x]) (w'.setCell ⟨w.heap.size+1,0,none⟩ (.slice A3 n c3)) A3 c3 (ys ++ [y]):=by
 subst hn
 have h2:=h.hc
 have h3:=h.hle
 have hx:=h.box hg
 have hgg:=grown_1 w' (w.heap.size+1) (.slice A3 (ys ++ [y]).length c3)
 have hmv:=Mv.row h.mv hg (fun k hk=>by have:=(h.rw'.lt k hk).1;omega) (fun k hk=>by have:=(h.rw'.lt k hk).1;omega) h.hc
 have hrb:Bx w' w.heap.size #[.slice none 0 0] 27:=(hg.block _ h.rb.lt (fun e=>by have:=(h.rw'.lt _ e.symm).1;omega)).trans h.rb
 exact ⟨Mv.over (Below.refl _ _) hmv hgg (by omega) h.hc,hx.to_1 _,ro.grown hgg (by omega),by rw [aap,aap,h.bq];simp only [aai];rw [hy],h.hc,Bx.grown hrb hgg (by omega),h.hle⟩
end
theorem prog_any (HE:abw) (HAR:adi) (W0 w:World) (c:Nat) (s:RS) (hv:Vars W0) (h:Rd W0 c s w):Calls Tryz.prog 14 #[.pointer (some ⟨c,0,none⟩)] w (PgC W0 c w (prg s)):=by
 obtain ⟨R,hR⟩:∃ R,prg s=R:=⟨_,rfl⟩
 have hlg:ai0 (s.len+1) [] s=R:=hR
 rw [hR]
 have hlt:=h.lt
 have hle0:=h.le
 obtain ⟨Wa,ha⟩:∃ W,w.alloc (.cells #[.slice none 0 0] 27)=W:=⟨_,rfl⟩
 have ka:Below w.heap.size w Wa:=by rw [← ha];exact (Below.refl _ _).alloc (Nat.le_refl _) _
 have xa:Bx Wa w.heap.size #[.slice none 0 0] 27:=by rw [← ha];exact Bx.new _ _ _
 have sa:Wa.heap.size=w.heap.size+1:=by rw [← ha];simp
 obtain ⟨Wb,hb⟩:∃ W,Wa.alloc (.cells #[.slice none 0 0] 27)=W:=⟨_,rfl⟩
 have kb:Below Wa.heap.size Wa Wb:=by rw [← hb];exact (Below.refl _ _).alloc (Nat.le_refl _) _
 have xb:Bx Wb (w.heap.size+1) #[.slice none 0 0] 27:=by rw [← hb,← sa];exact Bx.new _ _ _
 have HPA:Hid (PrgAt W0 w c s [] Wb none 0 []):=ke ⟨Mv.below (ka.trans (kb.mono ka.size)) h,xb,OwnT.nil,rfl,hlt,xa.next kb,hle0⟩
 have HX:Hid (∀ s' w',Rd W0 c s' w'→Calls Tryz.prog 42 #[.pointer (some ⟨c,0,none⟩)] w' (CsC W0 c w' (clsC s'))):=by
  show ∀ s' w',_
  intro s' w' h';exact class_all HE HAR W0 w' c s' hv h'
 have HLG:=ke hlg
 have hfew:=h.few
 obtain ⟨sl,hsl⟩:∃ sl,s.len=sl:=⟨_,rfl⟩
 rw [hsl] at HLG hfew
 have hsl':s.len < sl+1:=by omega
 obtain ⟨i0,hi,hz0,hzz1,hzz2⟩:=info_parts Tryz.infoCl
 clear xa xb ka kb sa hR hlg HE HAR hv
 subst ha hb
 go_enter Tryz.func14,Tryz.ntmps14
 go_wp2_with fail
 go_loopw [13] (fun v13 wr=>∃ (m:Nat) (acc:List Nd) (s':RS) (A:Option Addr) (cap:Nat) (ys:List Nd),ai0 m acc s'=R∧s'.len < m∧PrgAt W0 w c s' acc wr A cap ys∧ys.length+s'.len≤1000001) (fun v13 wr=>lenAt wr c)
 case atStart=>exact ⟨sl+1,[],s,none,0,[],HLG.out,hsl',HPA.out,by simp;omega⟩
 case round =>
  obtain ⟨m,acc,s',A,cap,ys,hrun,hen,hp,hbd⟩:=hrel
  obtain ⟨m,rfl⟩:∃ m',m=m'+1:=⟨m - 1,by omega⟩
  have hla:=abe hp.mv.2
  obtain ⟨Aw,cw,hw0,hwl⟩:=hp.mv.2.words
  have HPB:=ke hp
  cases hws:s'.ws with
  | nil =>
   have hR:ai0 (m+1) acc s'=(acc,s'):=by simp only [ai0,hws];simp
   rw [hR] at hrun
   rw [hws] at hw0
   simp only [List.length_nil] at hw0
   subst hrun
   have r0:=hp.rb.all_1
   have g0:=hp.rb.fro 0
   have HG:=ke (grown_1 wr w.heap.size (.slice A ys.length cap))
   have y0':=hp.bx.all_1
   clear hR hws hp hla hen hbd hwl
   go_wp2_with fail
   have z0:=(HPB.out.rb.to_1 (.slice A ys.length cap)).all_1
   (try simp only [Exit.inBlock,Exit.then])
   refine bodyPost_ret (v:=.agg #[.slice A ys.length cap]) (by simp [results,Tryz.results14,go_sem,z0]) rfl ?_
   exact ⟨A,cap,ys,rfl,(HPB.out.rw'.fk.grown HG.out (by omega)).mono (by omega),HPB.out.bq,Mv.over (Below.refl _ _) HPB.out.mv HG.out (Nat.le_refl _) hlt⟩
  | cons x0 l0 =>
   obtain ⟨q,hq⟩:∃ q,clsC s'=q:=⟨_,rfl⟩
   have hR:ai0 (m+1) acc s'=ai0 m (acc ++ [q.1]) q.2:=by simp only [ai0,hws,hq];simp
   rw [hR] at hrun
   have h1:s'.len=l0.length+1:=by simp [RS.len,hws]
   have h3:q.2.len≤s'.len - 1:=by rw [← hq];exact len_clsC s'
   have HXQ:=ke (HX.out s' wr.drew hp.mv.2.drew)
   rw [hq] at HXQ
   have HPD:=ke (hp.below (Below.refl _ wr).drew)
   have HRUN:=ke hrun
   have hpl:(0:Int) < ((l0.length+1:Nat):Int):=by omega
   have y0:=hp.bx.all_1
   have hsw:wr.drew.heap.size=wr.heap.size:=rfl
   have hbl:=hp.bx.lt
   rw [hws] at hw0
   simp only [List.length_cons] at hw0
   clear hR hrun hq hp hws hwl
   go_wp2_with fail
   go_region_law (first
    | (refine step_append_lies _ rfl (.tmp 11) (.tmp 14) 25 rfl (w.heap.size+2) 43 i0 _ 4 80 Tryz.underlying25 hi hz0 hzz1 hzz2 rfl (by decide) _ _ _ rfl HO6.out.1 ⟨w5.heap.size,0,none⟩ 1 1 _ rfl (by simp [aab]) (fun j u hj=>HYR.out.1.cells (g:=w5.heap.size) rfl j u hj) HYR.out.one' (by decide) (by unfold maxLen;first|omega|(simp;omega)) (by first|omega|(simp;omega)) HC6.out _ rfl ?_;intro g c3 w7 ho7 hg7 hat7 hlt7;have HO7:=ke (OwnT.app HO6.out HYR.out HB6.out HV6.out (by simp) ho7 hg7 (hat7.elim (fun e=>.inl e.symm) (fun e=>.inr (by rw [e];rfl))) (by first|omega|(simp;omega)));have HPX:=ke (HP6.out.box hg7);have d0:=HPX.out.all_1;have g0:=HPX.out.fro 0;have HPUT:=ke (HP6.out.put (A3:=some ⟨g,0,none⟩) (c3:=c3) HBQ.out HO7.out hg7 (by simp));clear ho7 hg7 hat7 hlt7)
    | (go_simp;go_wp2_with (go_at_call 42;refine HXQ.out.mono ?_;rintro e w5 ⟨nm,sp,Af,Am,cf,cm,fs,gs,rfl,hk,hm⟩;have HP5:=ke (HPD.out.move hm);have HBQ:=ke hk.2.2;have hb6:Below w5.heap.size w5 (w5.alloc (.cells #[.string nm,.string sp,.slice Af fs.length cf,.slice Am gs.length cm] 43)):=(Below.refl _ _).alloc (Nat.le_refl _) _;have HP6:=ke (HP5.out.below hb6);have HO6:=ke HP6.out.rw';have hsz5:=hm.1.size;have HYR:=ke (OwnT.one (T:=43) hk (show wr.drew.heap.size≤w5.heap.size from hsz5));have HB6:=ke (show w.heap.size+2≤wr.drew.heap.size from hbl);have HV6:=ke (fun k hk'=>(HPD.out.rw'.lt k hk').2);have HC6:=ke (Nat.le_trans hbl (Nat.le_trans hsz5 hb6.size));have b0:=HP5.out.bx.all_1;have b1:=HP6.out.bx.all_1;simp only [aab] at HYR;clear hk hm hb6)))
   all_goals
    go_wp2_with fail
    go_roundw
    case rel=>exact ⟨m,_,q.2,_,_,_,HRUN.out,by omega,HPUT.out,by simp;omega⟩
    case measure=>(refine Nat.lt_of_le_of_lt (Nat.le_of_eq (abe HPUT.out.mv.2)) ?_;rw [hla];omega)
end
section
open Go.RowKit
def isQ (L:List Wd) (q:QS) (j k:Nat) (t:ByteArray):Bool:=decide (q.bd=0) && (match L[q.k+j]? with|some x=>(x.k == k) && (t.data.toList.isEmpty || x.t == t.data.toList)|none=>false)
variable {L:List Wd} {q:QS}
theorem take_q {p:ByteArray} (hp:p.data.toList≠[]) (j:Nat):(isQ L q j 4 p || isQ L q j 1 p)=seesQ L q j p:=by
 have he:p.data.toList.isEmpty=false:=by cases h:p.data.toList with|nil=>exact absurd h hp|cons a l=>rfl
 unfold isQ seesQ fxW
 rw [he]
 cases hx:L[q.k+j]? with
 | none=>simp
 | some x =>
  simp only [Bool.false_or]
  cases decide (q.bd=0)<;>simp only [Bool.true_and,Bool.false_and,Bool.or_self]
  rw [Bool.and_or_distrib_right]
theorem sign_q (hL:∀ x ∈ L,aje x) {p:ByteArray} (hp:alL p.data.toList=false) (j:Nat):isQ L q j 4 p=seesQ L q j p:=by
 have hne:p.data.toList≠[]:=by intro h;rw [h] at hp;simp [alL] at hp
 rw [← take_q hne]
 have:isQ L q j 1 p=false:=by
  have he:p.data.toList.isEmpty=false:=by cases h:p.data.toList with|nil=>exact absurd h hne|cons a l=>rfl
  unfold isQ
  rw [he]
  cases hx:L[q.k+j]? with
  | none=>simp
  | some x =>
   by_cases h1:x.k=1
   ·have h2:=(hL x (List.mem_of_getElem? hx)).2.2.1 h1
    have:(x.t == p.data.toList)=false:=by
     rw [beq_eq_false_iff_ne]
     intro e;rw [e,hp] at h2;cases h2.1
    simp [this]
   ·have:(x.k == 1)=false:=by simpa using h1
    simp [this]
 rw [this,Bool.or_false]
theorem num_q:isQ L q 0 2 ⟨#[]⟩=(nuQ L q).isSome:=by
 unfold isQ nuQ
 rw [Nat.add_zero]
 by_cases h0:q.bd=0
 ·rw [if_pos h0]
  cases hx:L[q.k]? with
  | none=>simp [h0]
  | some x =>
   by_cases h2:x.k=2
   ·simp [h0,h2]
   ·simp [h0,h2]
 ·rw [if_neg h0];simp [h0]
def txtQ (L:List Wd) (q:QS) (j:Nat):List UInt8:=match L[q.k+j]? with|some x=>x.t|none=>[]
theorem name_q (j:Nat):(isQ L q j 1 ⟨#[]⟩ && aer (txtQ L q j))=(nmQ L q j).isSome:=by
 unfold isQ nmQ txtQ
 by_cases h0:q.bd=0
 ·rw [if_pos h0]
  cases hx:L[q.k+j]? with
  | none=>simp [h0]
  | some x =>
   by_cases h2:x.k=1
   ·by_cases h3:aer x.t=true
    ·simp [h0,h2,h3]
    ·simp [h0,h2,h3]
   ·simp [h0,h2]
 ·rw [if_neg h0];simp [h0]
theorem class_q (j:Nat):(isQ L q j 1 ⟨#[]⟩ && bigQ (txtQ L q j))=(clQ L q j).isSome:=by
 unfold isQ clQ txtQ
 by_cases h0:q.bd=0
 ·rw [if_pos h0]
  cases hx:L[q.k+j]? with
  | none=>simp [h0]
  | some x =>
   by_cases h2:x.k=1
   ·by_cases h3:bigQ x.t=true
    ·simp [h0,h2,h3]
    ·simp [h0,h2,h3]
   ·simp [h0,h2]
 ·rw [if_neg h0];simp [h0]
theorem fx_dot:ajh af5:=⟨af5,by kernel_rfl⟩
theorem fx_as:ajh sAs:=⟨sAs,by kernel_rfl⟩
theorem fx_is:ajh sIs:=⟨sIs,by kernel_rfl⟩
theorem adl:ajh aah:=⟨aah,by kernel_rfl⟩
theorem fx_shut:ajh aa6:=⟨aa6,by kernel_rfl⟩
theorem akl:ajh aei:=⟨aei,by kernel_rfl⟩
theorem fx_cols:ajh ado:=⟨ado,by kernel_rfl⟩
theorem aee:ajh acy:=⟨acy,by kernel_rfl⟩
theorem adf:ajh abq:=⟨abq,by kernel_rfl⟩
theorem ae3:ajh adv:=⟨adv,by kernel_rfl⟩
theorem afk:ajh aeh:=⟨aeh,by kernel_rfl⟩
theorem aeq:ajh abp:=⟨abp,by kernel_rfl⟩
theorem aj9:ajh sNew:=⟨sNew,by kernel_rfl⟩
theorem akk:ajh abh:=⟨abh,by kernel_rfl⟩
theorem fx_not:ajh aig:=⟨aig,by kernel_rfl⟩
theorem fx_len:ajh aj5:=⟨aj5,by kernel_rfl⟩
theorem fxP_level {x:Wd} (hw:aje x) (t:ByteArray) (h:fxP (some (afr x))=some t):(t=⟨x.t.toArray⟩∧(x.k=4∨x.k=1)):=by
 unfold afr afo at h
 by_cases k1:x.k=1
 ·rw [if_pos k1,letP_eq _ (hw.2.2.1 k1).1] at h
  split at h
  ·cases h
  ·split at h
   ·cases h
   ·simp [fxP] at h;exact ⟨h.symm,.inr k1⟩
 ·rw [if_neg k1] at h
  by_cases k2:x.k=2
  ·rw [if_pos k2] at h;cases h
  ·rw [if_neg k2] at h
   by_cases k3:x.k=3
   ·rw [if_pos k3] at h;cases h
   ·rw [if_neg k3] at h
    simp [fxP] at h
    exact ⟨h.symm,.inl (by have:=hw.1;have:=hw.2.1;omega)⟩
theorem tight_word {l:List UInt8} (h:alL l=true):tightL l=0:=by
 unfold tightL
 have key:∀ m:List UInt8,alL m=false→l≠m:=fun m hm e=>by rw [e,hm] at h;cases h
 rw [if_neg (key _ (by decide)),if_neg (key _ (by decide)),if_neg (by rintro (e|e)<;>exact key _ (by decide) e),if_neg (by rintro (e|e)<;>exact key _ (by decide) e),if_neg (by rintro (e|e)<;>exact key _ (by decide) e),if_neg (by rintro (e|e|e|e)<;>exact key _ (by decide) e)]
end
section
open Go.RowKit
structure QC where
 W0:World
 c:Nat
 L:List Wd
 n:Int
 A:Option Addr
 cap:Nat
def QC.ok (K:QC):Prop:=(∀ x ∈ K.L,aje x)∧K.L.length≤8000∧K.L.length≤K.cap∧K.cap≤maxLen∧(0 < K.L.length→∃ b o,K.A=some ⟨b,o,none⟩∧b≠K.c∧∀ (i:Nat) x,K.L[i]?=some x→K.W0.cell? ⟨b,o+i * 3,none⟩=some (.int .i64 x.k)∧K.W0.cell? ⟨b,o+i * 3+1,none⟩=some (.string ⟨x.t.toArray⟩)∧K.W0.cell? ⟨b,o+i * 3+2,none⟩=some (.int .i64 x.a))
def qcs (K:QC) (q:QS):Array Value:=#[.slice K.A K.L.length K.cap,.int .i64 K.n,.int .i64 q.k,.int .i64 q.bd,.int .i64 q.wh,.int .i64 q.dp,.bool q.lt,.int .i64 q.la]
def Qm (K:QC) (q:QS) (w:World):Prop:=KB K.c K.W0 w∧K.ok∧q.k≤K.L.length∧Bx w K.c (qcs K q) 63
def Mq (K:QC) (q:QS) (w w':World):Prop:=w.grownBy w' (some K.c)∧Qm K q w'
variable {K:QC} {q q':QS} {w w' w'':World}
theorem Qm.lt (h:Qm K q w):K.c < w.heap.size:=h.2.2.2.lt
theorem Qm.le (h:Qm K q w):K.W0.heap.size≤w.heap.size:=h.1.size
theorem Qm.cells (h:Qm K q w):w.cell? ⟨K.c,0,none⟩=some (.slice K.A K.L.length K.cap)∧w.cell? ⟨K.c,1,none⟩=some (.int .i64 K.n)∧w.cell? ⟨K.c,2,none⟩=some (.int .i64 q.k)∧w.cell? ⟨K.c,3,none⟩=some (.int .i64 q.bd)∧w.cell? ⟨K.c,4,none⟩=some (.int .i64 q.wh)∧w.cell? ⟨K.c,5,none⟩=some (.int .i64 q.dp) :=
 ⟨h.2.2.2.cell 0,h.2.2.2.cell 1,h.2.2.2.cell 2,h.2.2.2.cell 3,h.2.2.2.cell 4,h.2.2.2.cell 5⟩
theorem Qm.word (h:Qm K q w) {i:Nat} {x:Wd} (hx:K.L[i]?=some x):∃ b o,K.A=some ⟨b,o,none⟩∧w.cell? ⟨b,o+i * 3,none⟩=some (.int .i64 x.k)∧w.cell? ⟨b,o+i * 3+1,none⟩=some (.string ⟨x.t.toArray⟩)∧w.cell? ⟨b,o+i * 3+2,none⟩=some (.int .i64 x.a):=by
 obtain ⟨h1,⟨_,_,_,_,h2⟩,_,_⟩:=h
 have hl:0 < K.L.length:=by
  have:=(List.getElem?_eq_some_iff.1 hx).1;omega
 obtain ⟨b,o,hA,hb,hc⟩:=h2 hl
 obtain ⟨c0,c1,c2⟩:=hc i x hx
 have key:∀ j u,K.W0.cell? ⟨b,j,none⟩=some u→w.cell? ⟨b,j,none⟩=some u:=fun j u hu =>
  (World.cell?_of_block (a:=⟨b,j,none⟩) (World.grownBy.block h1 b (World.block_lt_of_cell? K.W0 (a:=⟨b,j,none⟩) hu) (by simpa using hb))).trans hu
 exact ⟨b,o,hA,key _ _ c0,key _ _ c1,key _ _ c2⟩
theorem Mq.refl (h:Qm K q w):Mq K q w w:=⟨⟨rfl,rfl,rfl,Nat.le_refl _,fun _ _ _=>rfl⟩,h⟩
theorem Mq.trans (h:Mq K q w w') (k:Mq K q' w' w''):Mq K q' w w'':=⟨h.1.trans k.1,k.2⟩
theorem Qm.below (h:Qm K q w) (hb:Below w.heap.size w w'):Qm K q w':=⟨h.1.trans (hb.mono h.1.size),h.2.1,h.2.2.1,h.2.2.2.next hb⟩
theorem Mq.below (h:Qm K q w) (hb:Below w.heap.size w w'):Mq K q w w':=⟨⟨hb.os,hb.tape,hb.output,hb.size,fun k hk _=>hb.block k hk⟩,h.below hb⟩
theorem Qm.put (h:Qm K q w) (hk:q'.k≤K.L.length) (o:Nat) (u:Value) (he:(qcs K q).setIfInBounds o u=qcs K q'):Mq K q' w (w.setCell ⟨K.c,o,none⟩ u):=by
 refine ⟨adc _ _ _ _,?_,h.2.1,hk,?_⟩
 ·exact World.grownBy.trans h.1 (adc _ _ _ _)
 ·rw [← he];exact h.2.2.2.set o u
theorem Qm.bad (h:Qm K q w) (c wh:Int):Mq K { q with bd:=c,wh:=wh } w ((w.setCell ⟨K.c,3,none⟩ (.int .i64 c)).setCell ⟨K.c,4,none⟩ (.int .i64 wh)):=by
 have h1:=h.put (q':={ q with bd:=c }) h.2.2.1 3 (.int .i64 c) rfl
 exact h1.trans (h1.2.put (q':={ q with bd:=c,wh:=wh }) h.2.2.1 4 (.int .i64 wh) rfl)
theorem Qm.step (h:Qm K q w) (hk:q.k < K.L.length):Mq K { q with k:=q.k+1 } w (w.setCell ⟨K.c,2,none⟩ (.int .i64 ((q.k+1:Nat):Int))) :=
 h.put (q':={ q with k:=q.k+1 }) hk 2 _ rfl
theorem Qm.deep (h:Qm K q w) (d:Int):Mq K { q with dp:=d } w (w.setCell ⟨K.c,5,none⟩ (.int .i64 d)) :=
 h.put (q':={ q with dp:=d }) h.2.2.1 5 _ rfl
theorem Qm.few (h:Qm K q w):q.k≤K.L.length∧K.L.length≤8000:=⟨h.2.2.1,h.2.1.2.1⟩
theorem where_any (h:Qm K q w):Calls Tryz.prog 66 #[.pointer (some ⟨K.c,0,none⟩)] w fun e w'=>e=.returned (.int .i64 (whQ K.L K.n q.k))∧Below w.heap.size w w':=by
 obtain ⟨c0,c1,c2,_,_,_⟩:=h.cells
 have hf:=h.few
 cases hx:K.L[q.k]? with
 | none =>
  have hl:(K.L.length:Int)≤q.k:=by have:=List.getElem?_eq_none_iff.1 hx;omega
  have e:whQ K.L K.n q.k=K.n:=by unfold whQ;rw [hx]
  rw [e]
  clear hx e h
  go_enter Tryz.func66,Tryz.ntmps66
  go_upto_region 1 with (fail)
  go_quiet (fail)
  go_wp2
  go_ret
  exact ⟨rfl,below_drewN (Below.refl _ _) _⟩
 | some x =>
  have hk:=(List.getElem?_eq_some_iff.1 hx).1
  have hl:(q.k:Int) < K.L.length:=by omega
  have h0:(0:Int)≤q.k:=by omega
  obtain ⟨b,o,hA,d0,d1,d2⟩:=h.word hx
  have e:whQ K.L K.n q.k=x.a:=by unfold whQ;rw [hx]
  rw [e]
  rw [hA] at c0
  clear hx e h
  go_enter Tryz.func66,Tryz.ntmps66
  go_upto_region 1 with (fail)
  go_quiet (fail)
  go_upto_region 2 with (fail)
  go_quiet (fail)
  go_wp2
  go_ret
  exact ⟨rfl,below_drewN (below_drewN (Below.refl _ _) _) _⟩
theorem qfail_any (h:Qm K q w) (k:Int):Calls Tryz.prog 36 #[.pointer (some ⟨K.c,0,none⟩),.int .i64 k] w fun e w'=>e=.returned (.tuple #[])∧Mq K (q.fail K.L K.n k) w w':=by
 obtain ⟨c0,c1,c2,c3,c4,_⟩:=h.cells
 have HW:=ke (where_any h)
 have HQ:=ke h
 by_cases h0:q.bd=0
 ·have e:q.fail K.L K.n k={ q with bd:=k,wh:=whQ K.L K.n q.k }:=by unfold QS.fail;rw [if_pos h0]
  rw [e]
  rw [h0] at c3
  clear h e c4
  go_enter Tryz.func36,Tryz.ntmps36
  go_wp2_with (go_at_call 66;refine HW.out.mono ?_;rintro e w1 ⟨rfl,hb⟩;have h1:=HQ.out.below hb;have f3:=h1.2.2.2.fro 3;have f4:=h1.2.2.2.fro 4;have d3:=h1.2.2.2.cell 3;have d4:=h1.2.2.2.cell 4;have HM:=ke ((Mq.below HQ.out hb).trans (h1.bad k (whQ K.L K.n q.k)));clear hb h1)
  exact bodyPost_end (v:=.tuple #[]) (by simp [results,Tryz.results36,go_sem]) rfl ⟨rfl,HM.out⟩
 ·have HM:=ke (Mq.refl h)
  have e:q.fail K.L K.n k=q:=by unfold QS.fail;rw [if_neg h0]
  have hb:(q.bd == 0)=false:=by simpa using h0
  rw [e]
  clear h e
  go_enter Tryz.func36,Tryz.ntmps36
  go_wp2_with fail
  exact bodyPost_end (v:=.tuple #[]) (by simp [results,Tryz.results36,go_sem]) rfl ⟨rfl,HM.out⟩
theorem ai3 (h:Qm K q w) (j k:Nat) (t:ByteArray) (hj:j≤1) (hk:k≤10):Calls Tryz.prog 49 #[.pointer (some ⟨K.c,0,none⟩),.int .i64 j,.int .i64 k,.string t] w fun e w'=>e=.returned (.bool (isQ K.L q j k t))∧w=w':=by
 obtain ⟨c0,c1,c2,c3,c4,_⟩:=h.cells
 have hf:=h.few
 obtain ⟨b,hb⟩:∃ b,isQ K.L q j k t=b:=⟨_,rfl⟩
 rw [hb]
 by_cases h0:q.bd=0
 ·rw [h0] at c3
  cases hx:K.L[q.k+j]? with
  | none =>
   have hl:(K.L.length:Int)≤(q.k:Int)+(j:Int):=by have:=List.getElem?_eq_none_iff.1 hx;omega
   have e:b=false:=by rw [← hb];unfold isQ;rw [hx];simp
   subst e
   clear hx h hb
   go_enter Tryz.func49,Tryz.ntmps49
   go_wp2
   go_ret
   exact ⟨rfl,rfl⟩
  | some x =>
   have hkl:=(List.getElem?_eq_some_iff.1 hx).1
   have hl:(q.k:Int)+(j:Int) < K.L.length:=by omega
   have hz:(0:Int)≤(q.k:Int)+(j:Int):=by omega
   have hz2:((q.k:Int)+(j:Int)).toNat=q.k+j:=by omega
   obtain ⟨g,o,hA,d0,d1,d2⟩:=h.word hx
   have e:b=((x.k == k) && (t.data.toList.isEmpty || x.t == t.data.toList)):=by rw [← hb];unfold isQ;rw [hx];simp [h0]
   rw [hA] at c0
   have HE:=ke e
   obtain ⟨a1,ha1⟩:∃ a,((x.k:Int) == (k:Int))=a:=⟨_,rfl⟩
   have hl1:t.toList=t.data.toList:=by rw [ByteArray.toList_eq]
   obtain ⟨a2,ha2⟩:∃ a,t.data.isEmpty=a:=⟨_,rfl⟩
   have HQ:Hid ((a1 && (a2 || (x.t == t.data.toList)))=b):=by
    refine ke ?_
    rw [HE.out,← ha1,← ha2]
    have e1:((x.k:Int) == (k:Int))=(x.k == k):=by rw [Bool.eq_iff_iff];simp;omega
    have e2:t.data.isEmpty=t.data.toList.isEmpty:=by simp
    rw [e1,e2]
   clear hx h hb e HE
   go_enter Tryz.func49,Tryz.ntmps49
   go_wp2_with fail
   all_goals
    go_ret
    exact ⟨by rw [← HQ.out];simp [*],rfl⟩
 ·have hb0:(q.bd == 0)=false:=by simpa using h0
  have e:b=false:=by rw [← hb];unfold isQ;simp [h0]
  subst e
  clear h hb
  go_enter Tryz.func49,Tryz.ntmps49
  go_wp2
  go_ret
  exact ⟨rfl,rfl⟩
end
section
open Go.RowKit
def Rq (K:QC) (s:RS) (w:World):Prop:=∃ q,Qm K q w∧Rel K.L K.n q s
def Tq (K:QC) (s:RS) (w w':World):Prop:=w.grownBy w' (some K.c)∧Rq K s w'
variable {K:QC} {q q':QS} {s t:RS} {w w' w'':World}
theorem Tq.trans (h:Tq K s w w') (k:Tq K t w' w''):Tq K t w w'':=⟨h.1.trans k.1,k.2⟩
theorem Tq.of (h:Mq K q w w') (hr:Rel K.L K.n q s):Tq K s w w':=⟨h.1,q,h.2,hr⟩
theorem Rq.below (h:Rq K s w) (hb:Below w.heap.size w w'):Rq K s w':=by
 obtain ⟨q,a,b⟩:=h;exact ⟨q,a.below hb,b⟩
theorem Tq.below (h:Rq K s w) (hb:Below w.heap.size w w'):Tq K s w w':=by
 obtain ⟨q,a,b⟩:=h;exact Tq.of (Mq.below a hb) b
theorem Rq.lt (h:Rq K s w):K.c < w.heap.size:=by obtain ⟨q,a,_⟩:=h;exact a.lt
theorem Rq.le (h:Rq K s w):K.W0.heap.size≤w.heap.size:=by obtain ⟨q,a,_⟩:=h;exact a.le
theorem Rq.well (h:Rq K s w):∀ x ∈ K.L,aje x:=by obtain ⟨q,a,_⟩:=h;exact a.2.1.1
theorem sign_any (h:Qm K q w) (p:ByteArray):Calls Tryz.prog 22 #[.pointer (some ⟨K.c,0,none⟩),.string p] w fun e w'=>e=.returned (.bool (isQ K.L q 0 4 p))∧w=w':=by
 have HI:Hid (Calls Tryz.prog 49 #[.pointer (some ⟨K.c,0,none⟩),.int .i64 0,.int .i64 4,.string p] w fun e w'=>e=.returned (.bool (isQ K.L q 0 4 p))∧w=w'):=ke (ai3 h 0 4 p (by omega) (by omega))
 clear h
 go_enter Tryz.func22,Tryz.ntmps22
 go_wp2_with (go_at_call 49;refine HI.out.mono ?_;rintro e w1 ⟨rfl,rfl⟩)
 go_ret
 exact ⟨rfl,rfl⟩
theorem key_any (h:Qm K q w) (p:ByteArray):Calls Tryz.prog 48 #[.pointer (some ⟨K.c,0,none⟩),.string p] w fun e w'=>e=.returned (.bool (isQ K.L q 0 1 p))∧w=w':=by
 have HI:Hid (Calls Tryz.prog 49 #[.pointer (some ⟨K.c,0,none⟩),.int .i64 0,.int .i64 1,.string p] w fun e w'=>e=.returned (.bool (isQ K.L q 0 1 p))∧w=w'):=ke (ai3 h 0 1 p (by omega) (by omega))
 clear h
 go_enter Tryz.func48,Tryz.ntmps48
 go_wp2_with (go_at_call 49;refine HI.out.mono ?_;rintro e w1 ⟨rfl,rfl⟩)
 go_ret
 exact ⟨rfl,rfl⟩
theorem aea (h:Qm K q w) (hr:Rel K.L K.n q s) {p:ByteArray} (hp:ajh p) (hs:s.sees 0 p=true):s.wc=0∧q.k < K.L.length:=by
 rw [hr.sees h.2.1.1 0 hp] at hs
 unfold seesQ at hs
 rw [Bool.and_eq_true,decide_eq_true_eq] at hs
 obtain ⟨h1,h2⟩:=hs
 refine ⟨by rw [← hr.bad];exact h1,?_⟩
 rw [Nat.add_zero] at h2
 cases hx:K.L[q.k]? with
 | none=>rw [hx] at h2;cases h2
 | some x=>exact (List.getElem?_eq_some_iff.1 hx).1
theorem aes (h:Rq K s w) (p:ByteArray) (hp:ajh p) (hne:p.data.toList≠[]):Calls Tryz.prog 21 #[.pointer (some ⟨K.c,0,none⟩),.string p] w fun e w'=>e=.returned (.bool (s.sees 0 p))∧Tq K (s.take p) w w':=by
 obtain ⟨q,hm,hr⟩:=h
 have HS:=ke (sign_any hm p)
 have HK:=ke (key_any hm p)
 have hq:=take_q (L:=K.L) (q:=q) hne 0
 rw [← hr.sees hm.2.1.1 0 hp] at hq
 obtain ⟨_,_,c2,_,_,_⟩:=hm.cells
 have f2:=hm.2.2.2.fro 2
 cases hs:s.sees 0 p with
 | false =>
  rw [hs,Bool.or_eq_false_iff] at hq
  rw [hq.1] at HS;rw [hq.2] at HK
  have e:s.take p=s:=by unfold RS.take;rw [hs];simp
  rw [e]
  have HT:=ke (Tq.of (Mq.refl hm) hr)
  clear hq hr hs e hm
  go_enter Tryz.func21,Tryz.ntmps21
  go_wp2_with (first|(go_at_call 22;refine HS.out.mono ?_;rintro e w1 ⟨rfl,rfl⟩)|(go_at_call 48;refine HK.out.mono ?_;rintro e w1 ⟨rfl,rfl⟩))
  go_ret
  exact ⟨rfl,HT.out⟩
 | true =>
  obtain ⟨h0,hk⟩:=aea hm hr hp hs
  have e:s.take p=s.skip:=by unfold RS.take;rw [hs];simp
  rw [e]
  have HT:=ke (Tq.of (hm.step hk) (hr.skip h0 hk))
  have hf:=hm.few
  have hki:(q.k:Int)≤8000:=by omega
  simp only [Int.natCast_add,Int.natCast_one] at HT
  rw [hs] at hq
  cases h1:isQ K.L q 0 4 p with
  | true =>
   rw [h1] at HS
   clear hq hr hs e hm h1 HK
   go_enter Tryz.func21,Tryz.ntmps21
   go_wp2_with (first|(go_at_call 22;refine HS.out.mono ?_;rintro e w1 ⟨rfl,rfl⟩))
   go_ret
   exact ⟨rfl,HT.out⟩
  | false =>
   rw [h1] at HS
   rw [h1,Bool.false_or] at hq
   rw [hq] at HK
   clear hq hr hs e hm h1
   go_enter Tryz.func21,Tryz.ntmps21
   go_wp2_with (first|(go_at_call 22;refine HS.out.mono ?_;rintro e w1 ⟨rfl,rfl⟩)|(go_at_call 48;refine HK.out.mono ?_;rintro e w1 ⟨rfl,rfl⟩))
   go_ret
   exact ⟨rfl,HT.out⟩
theorem aeb (h:Rq K s w) {k:Int} (hk:k≠0):Calls Tryz.prog 36 #[.pointer (some ⟨K.c,0,none⟩),.int .i64 k] w fun e w'=>e=.returned (.tuple #[])∧Tq K (s.fail k) w w':=by
 obtain ⟨q,hm,hr⟩:=h
 exact (qfail_any hm k).mono fun e w' ⟨a,b⟩=>⟨a,Tq.of b (hr.fail hk)⟩
theorem aet (h:Rq K s w) (p:ByteArray) (hp:ajh p) (hne:p.data.toList≠[]):Calls Tryz.prog 19 #[.pointer (some ⟨K.c,0,none⟩),.string p] w fun e w'=>e=.returned (.tuple #[])∧Tq K (s.need p) w w':=by
 have HT:=ke (aes h p hp hne)
 cases hs:s.sees 0 p with
 | true =>
  have e1:s.take p=s.skip:=by unfold RS.take;rw [hs];simp
  have e2:s.need p=s.skip:=by unfold RS.need;rw [hs];simp
  rw [hs,e1] at HT
  rw [e2]
  clear h hs e1 e2
  go_enter Tryz.func19,Tryz.ntmps19
  go_wp2_with (go_at_call 21;refine HT.out.mono ?_;rintro e w1 ⟨rfl,ht⟩;have HT1:=ke ht;clear ht)
  exact bodyPost_end (v:=.tuple #[]) (by simp [results,Tryz.results19,go_sem]) rfl ⟨rfl,HT1.out⟩
 | false =>
  have e1:s.take p=s:=by unfold RS.take;rw [hs];simp
  have e2:s.need p=s.fail 3:=by unfold RS.need;rw [hs];simp
  rw [hs,e1] at HT
  rw [e2]
  clear h hs e1 e2
  go_enter Tryz.func19,Tryz.ntmps19
  go_wp2_with (first|(go_at_call 21;refine HT.out.mono ?_;rintro e w1 ⟨rfl,ht⟩;have HT1:=ke ht;clear ht)|(go_at_call 36;refine (aeb HT1.out.2 (k:=3) (by decide)).mono ?_;rintro e w2 ⟨rfl,ht⟩;have HT2:=ke ht;clear ht))
  exact bodyPost_end (v:=.tuple #[]) (by simp [results,Tryz.results19,go_sem]) rfl ⟨rfl,HT1.out.trans HT2.out⟩
theorem smallQ_bt (t:ByteArray) (h:0 < t.size):aer t.data.toList=(adm (bt t 0) && !kept t.data.toList):=by
 obtain ⟨b,hb,hn,_⟩:=ad1 t 0 h
 rw [List.drop_zero] at hb
 rw [hb,aer,← hn]
theorem bigQ_bt (t:ByteArray) (h:0 < t.size):bigQ t.data.toList=(big (bt t 0) && !(t.toList == stringWord)):=by
 obtain ⟨b,hb,hn,_⟩:=ad1 t 0 h
 rw [List.drop_zero] at hb
 rw [ByteArray.toList_eq,hb,bigQ,← hn]
theorem akn (t:ByteArray):t.toList.isEmpty=decide (t.size=0):=by
 rw [ByteArray.toList_eq]
 have:t.data.toList.length=t.size:=by simp
 cases h:t.data.toList with
 | nil=>rw [h] at this;simp at this;simp [← this]
 | cons a l =>
  have h2:¬ t.size=0:=by rw [h,List.length_cons] at this;omega
  rw [decide_eq_false h2];rfl
theorem smallQ_any (t:ByteArray) (w:World):Calls Tryz.prog 140 #[.string t] w fun e w'=>e=.returned (.bool (aer t.data.toList))∧Below w.heap.size w w':=by
 by_cases h0:t.size=0
 ·have he:t.toList.isEmpty=true:=by rw [akn];simpa using h0
  have hl:aer t.data.toList=false:=by
   have:t.data.toList=[]:=by
    have h1:t.data.toList.length=t.size:=by simp
    exact List.eq_nil_of_length_eq_zero (by omega)
   rw [this];rfl
  rw [hl]
  clear hl h0
  go_enter Tryz.func140,Tryz.ntmps140
  go_wp2_with fail
  go_ret
  exact ⟨rfl,Below.refl _ _⟩
 ·have hpos:0 < t.size:=by omega
  have he:t.toList.isEmpty=false:=by rw [akn];simpa using h0
  have hbt:=abu t 0 hpos
  have hb256:=ac2 t 0
  have HQ:=ke (smallQ_bt t hpos)
  obtain ⟨a1,ha1⟩:∃ a,adm (bt t 0:Int)=a:=⟨_,rfl⟩
  obtain ⟨a2,ha2⟩:∃ a,kept t.data.toList=a:=⟨_,rfl⟩
  have HS:Hid (∀ w',Calls Tryz.prog 94 #[.int .i32 (bt t 0)] w' fun e w''=>e=.returned (.bool a1)∧w'=w''):=ke fun w'=>by rw [← ha1];exact agc _ w'
  have HK:Hid (∀ w',Calls Tryz.prog 95 #[.string t] w' fun e w''=>e=.returned (.bool a2)∧Below w'.heap.size w' w''):=ke fun w'=>by rw [← ha2];exact rkept_any t w'
  have HR:Hid (aer t.data.toList=(a1 && !a2)):=ke (by rw [HQ.out,ha1,ha2])
  clear ha1 ha2 HQ h0
  rw [HR.out]
  clear HR
  go_enter Tryz.func140,Tryz.ntmps140
  cases a1
  ·go_wp2_with (first|(go_at_call 94;refine (HS.out _).mono ?_;rintro e w1 ⟨rfl,rfl⟩))
   go_ret
   exact ⟨rfl,Below.refl _ _⟩
  ·go_wp2_with (first|(go_at_call 94;refine (HS.out _).mono ?_;rintro e w1 ⟨rfl,rfl⟩)|(go_at_call 95;refine (HK.out _).mono ?_;rintro e w1 ⟨rfl,hb⟩;have HB:=ke hb;clear hb))
   go_ret
   exact ⟨by simp,HB.out⟩
theorem bigQ_any (t:ByteArray) (w:World):Calls Tryz.prog 86 #[.string t] w fun e w'=>e=.returned (.bool (bigQ t.data.toList))∧w=w':=by
 by_cases h0:t.size=0
 ·have he:t.toList.isEmpty=true:=by rw [akn];simpa using h0
  have hl:bigQ t.data.toList=false:=by
   have:t.data.toList=[]:=by
    have h1:t.data.toList.length=t.size:=by simp
    exact List.eq_nil_of_length_eq_zero (by omega)
   rw [this];rfl
  rw [hl]
  clear hl h0
  go_enter Tryz.func86,Tryz.ntmps86
  go_wp2_with fail
  go_ret
  exact ⟨rfl,rfl⟩
 ·have hpos:0 < t.size:=by omega
  have he:t.toList.isEmpty=false:=by rw [akn];simpa using h0
  have hbt:=abu t 0 hpos
  have hb256:=ac2 t 0
  have HQ:=ke (bigQ_bt t hpos)
  obtain ⟨a1,ha1⟩:∃ a,big (bt t 0:Int)=a:=⟨_,rfl⟩
  obtain ⟨a2,ha2⟩:∃ a,(t.toList == [83,116,114,105,110,103])=a:=⟨_,rfl⟩
  have HS:Hid (∀ w',Calls Tryz.prog 93 #[.int .i32 (bt t 0)] w' fun e w''=>e=.returned (.bool a1)∧w'=w''):=ke fun w'=>by rw [← ha1];exact aiv _ w'
  have HR:Hid (bigQ t.data.toList=(a1 && !a2)):=ke (by rw [HQ.out,ha1,← ha2];rfl)
  clear ha1 HQ h0
  rw [HR.out]
  clear HR
  go_enter Tryz.func86,Tryz.ntmps86
  cases a1
  ·go_wp2_with (first|(go_at_call 93;refine (HS.out _).mono ?_;rintro e w1 ⟨rfl,rfl⟩))
   go_ret
   exact ⟨rfl,rfl⟩
  ·go_wp2_with (first|(go_at_call 93;refine (HS.out _).mono ?_;rintro e w1 ⟨rfl,rfl⟩))
   go_ret
   exact ⟨by simp,rfl⟩
end
end Go.Proofs.YtddnnohfbagbnaaGreatDoor
