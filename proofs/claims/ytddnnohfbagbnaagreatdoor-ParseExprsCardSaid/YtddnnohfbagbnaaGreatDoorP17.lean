/- Parts of the proof: Qeb1, Qeb2, Qeb3, Qeb4, Qeb5, Qeb6. -/
import Derived.Test.YtddnnohfbagbnaaGreatDoorHi
import Derived.Test.YtddnnohfbagbnaaGreatDoorP12
set_option maxHeartbeats 8000000
set_option maxRecDepth 100000
namespace Go.Proofs.YtddnnohfbagbnaaGreatDoor
set_option linter.unusedSimpArgs false
set_option linter.unusedVariables false
section
open Go.RowKit
theorem qexpr_left (w:World) (s:ByteArray) (hs:s.size≤maxLen) (hec:aie s=0) (hwq:(RX .expr (RS0 s)).2.wc=0) (hwsq:(RX .expr (RS0 s)).2.ws≠[]):Calls Tryz.prog 11 #[.string s] w (akc w s):=by
 obtain ⟨Wa,ha⟩:∃ W,w.alloc (.cells #[.int .i64 0,.int .i32 0,.string ⟨#[]⟩,.string ⟨#[]⟩,.string ⟨#[]⟩,.slice none 0 0,.string ⟨#[]⟩,.int .i64 0] 35)=W:=⟨_,rfl⟩
 have ka:Below w.heap.size w Wa:=by rw [← ha];exact (Below.refl _ _).alloc (Nat.le_refl _) _
 have xa:Bx Wa w.heap.size #[.int .i64 0,.int .i32 0,.string ⟨#[]⟩,.string ⟨#[]⟩,.string ⟨#[]⟩,.slice none 0 0,.string ⟨#[]⟩,.int .i64 0] 35:=by rw [← ha];exact Bx.new _ _ _
 have sa:Wa.heap.size=w.heap.size+1:=by rw [← ha];simp
 have HKA:=ke ka
 have HXA:=ke xa
 have HSA:=ke sa
 have HRD:=ke (ahz s Wa hs)
 clear ka xa sa
 subst ha
 unfold afw at HRD
 have hwl:=ah8 s
 have hfw:=ad3 s
 have hwr:=@agk s
 have hrs:=Rel.start s
 have hsz1:=sz_ex1 (RS0 s)
 have hz3:(RS0 s).len≤8000:=by simpa [RS0,RS.len] using ad3 s
 obtain ⟨r,hr⟩:∃ r,exO s=r:=⟨_,rfl⟩
 obtain ⟨q,hq⟩:∃ q,RX .expr (RS0 s)=q:=⟨_,rfl⟩
 have HT:Hid (exT s=if r.1=0 then hdE q.1 else noE):=ke (by simp only [exT,hr,ag3,hq])
 have HR:Hid ((if q.2.fin.wc=0 then (if (hdE q.1).size≤3000∧abk (hdE q.1)≤40 then ((0:Int),(0:Int)) else (5,0)) else (q.2.fin.wc,q.2.fin.wa))=r):=ke (by rw [← hr];simp only [exO,ag3,hq])
 have HPC:Hid (∀ e w',(∃ y,e=.returned (.tuple #[.agg (aab y).toArray,.int .i64 r.1,.int .i64 r.2])∧ExK w.heap.size none w' (exT s) y∧Below w.heap.size w w')→akc w s e w'):=ke (by intro e w' h;unfold akc;rw [hr];exact h)
 rw [ag3,hq] at hsz1
 rw [hq] at hwq
 rw [hq] at hwsq
 have HS:Hid ((hdE q.1).size≤16001):=ke (by omega)
 rw [hr] at hwr
 obtain ⟨ec,hec1⟩:∃ x,aie s=x:=⟨_,rfl⟩
 rw [hec1] at hec
 obtain ⟨ea,hea⟩:∃ x,allA s=x:=⟨_,rfl⟩
 obtain ⟨ws,hws⟩:∃ x,afv s=x:=⟨_,rfl⟩
 rw [hec1,hea,hws] at HRD
 rw [hec1,hea] at hwr
 rw [hec1,hws] at hrs
 rw [hws] at hwl hfw
 have HWL:=ke hwl;have HFW:=ke hfw;have HWR:=ke hwr;have HRS:=ke hrs;have HQ:=ke hq
 clear hwl hfw hwr hrs hsz1 hz3 hr hq hec1 hea hws
 go_enter Tryz.func11,Tryz.ntmps11
 go_upto_region 2 with (go_at_call 18;refine HRD.out.mono ?_;rintro e w1 ⟨v,rfl,ho,hb⟩;have HO:=ke ho;obtain ⟨A,cap,rfl,hlc⟩:=abc ho;have HB1:=ke hb;have HLC:=ke hlc;clear ho hb hlc HRD)
 have HXR1:Hid (Bx w1 w.heap.size #[.int .i64 0,.int .i32 0,.string ⟨#[]⟩,.string ⟨#[]⟩,.string ⟨#[]⟩,.slice none 0 0,.string ⟨#[]⟩,.int .i64 0] 35):=ke (HXA.out.next HB1.out)
 have HWB1:Hid (Below w.heap.size w w1):=ke (HKA.out.trans (HB1.out.mono HKA.out.size))
 ·subst hec
  have h0b:((0:Int) != 0)=false:=by simp
  have hrs:=HRS.out rfl
  go_upto_region 5 with (fail)
  refine aak (F:=fun W=>Bx W w1.heap.size (qcs (⟨w1,w1.heap.size,ws,s.size,A,cap⟩:QC) QS0) 63∧Below w1.heap.size w1 W) ⟨Bx.new _ _ _,(Below.refl _ _).alloc (Nat.le_refl _) _⟩ ?_
  rintro w3 ⟨hx3,hb3⟩
  have hok:(⟨w1,w1.heap.size,ws,s.size,A,cap⟩:QC).ok:=ahc HO.out HWL.out HFW.out HLC.out (Nat.le_refl _) w1 (Below.refl _ _) _
  have hrq:Rq (⟨w1,w1.heap.size,ws,s.size,A,cap⟩:QC) (RS0 s) w3:=⟨QS0,⟨⟨hb3.os,hb3.tape,hb3.output,hb3.size,fun k hk _=>hb3.block k hk⟩,hok,Nat.zero_le _,hx3⟩,hrs⟩
  have HB3:=ke hb3
  have HQX:Hid (Calls Tryz.prog 35 #[.pointer (some ⟨w1.heap.size,0,none⟩)] w3 (ExQ (⟨w1,w1.heap.size,ws,s.size,A,cap⟩:QC) w3 q)):=ke (by have:=ag8 hrq;rw [HQ.out] at this;exact this)
  have hw13:w1.heap.size < w3.heap.size:=hx3.lt
  have hw01:w.heap.size < w1.heap.size:=HXR1.out.lt
  clear hrs hx3 hb3 hok hrq
  go_upto_region 6 with (go_at_call 35;refine HQX.out.mono ?_;clear HQX;rintro e w4 ⟨x,y,rfl,hk,hbare,hmv⟩;have HK:=ke hk;have HBR:=ke hbare;obtain ⟨k,n,tx,nm,ty,Ae,cape,l,rfl,hsz,_,_⟩:=hk;(try simp only [aab]);have HMV:=ke hmv;clear hmv hbare)
  refine aak (F:=fun W=>Bx W w4.heap.size #[.int .i64 k,.int .i32 n,.string tx,.string nm,.string ty,.slice Ae l.length cape,.string ⟨#[]⟩,.int .i64 0] 35∧Below w4.heap.size w4 W) ⟨Bx.new _ _ _,(Below.refl _ _).alloc (Nat.le_refl _) _⟩ ?_
  rintro w5 ⟨hx5,hb5⟩
  have HX5:=ke hx5;have HB5:=ke hb5
  have hw34:w3.heap.size≤w4.heap.size:=HMV.out.1.size
  have HRQ5:Hid (Rq (⟨w1,w1.heap.size,ws,s.size,A,cap⟩:QC) q.2 w5):=ke (HMV.out.2.below hb5)
  have HWB5:Hid (Below w.heap.size w w5):=by
   have k3:=HWB1.out.trans (HB3.out.mono HWB1.out.size)
   have k4:=abv k3 HMV.out.1 (show w.heap.size≤w1.heap.size by omega)
   exact ke (k4.trans (hb5.mono k4.size))
  have HXR5:Hid (Bx w5 w.heap.size #[.int .i64 0,.int .i32 0,.string ⟨#[]⟩,.string ⟨#[]⟩,.string ⟨#[]⟩,.slice none 0 0,.string ⟨#[]⟩,.int .i64 0] 35):=ke (((HXR1.out.next HB3.out).grown HMV.out.1 (show w.heap.size≠w1.heap.size by omega)).next hb5)
  have HK5:Hid (ExK w3.heap.size none w5 x (.ex k n tx nm ty (.slice Ae l.length cape) l ⟨#[]⟩ 0)):=ke (HK.out.below hb5)
  clear hx5 hb5
  obtain ⟨qs,hm5,hr5⟩:=HRQ5.out
  obtain ⟨c0,_,c2,c3,c4,_⟩:=hm5.cells
  have hfew:=hm5.few
  have hbad:=hr5.bad
  have hlq:=hm5.lt
  dsimp only at c0 c2 c3 c4 hfew hlq
  have hne1:¬ w1.heap.size=w.heap.size:=by omega
  have hne2:¬ w.heap.size=w1.heap.size:=by omega
  have hq0:=hwq
  have hbd:qs.bd=0:=hbad.trans hq0
  rw [hbd] at c3
  have hws:=(hr5.2.2.1 hq0).2.1
  have hkl:qs.k < ws.length:=by
   apply Classical.byContradiction
   intro hn
   exact hwsq (by rw [hws,List.drop_eq_nil_of_le (show ws.length≤qs.k by omega)];rfl)
  have hkl':(qs.k:Int) < (ws.length:Int):=by omega
  have hfin:q.2.fin=q.2.fail 3:=by
   unfold RS.fin
   rw [hws,if_neg]
   simp;omega
  obtain ⟨t,ht⟩:∃ t,q.2.fail 3=t:=⟨_,rfl⟩
  have hwc3:t.wc=3:=by rw [← ht];unfold RS.fail;rw [if_pos hq0]
  obtain ⟨ta,hta⟩:∃ x,t.wa=x:=⟨_,rfl⟩
  have hr0:r=(3,ta):=by have:=HR.out;rw [hfin,ht,hwc3,hta,if_neg (by decide)] at this;exact this.symm
  subst hr0
  have HFL:Hid (∀ w',Below w5.heap.size w5 w'→Calls Tryz.prog 36 #[.pointer (some ⟨w1.heap.size,0,none⟩),.int .i64 3] w' fun e w''=>e=.returned (.tuple #[])∧Tq (⟨w1,w1.heap.size,ws,s.size,A,cap⟩:QC) t w' w''):=ke fun w' hb=>by have:=aeb (HRQ5.out.below hb) (k:=3) (by decide);rw [ht] at this;exact this
  have HT3:=ke (And.intro hwc3 hta)
  clear hwc3 hta hfin hws hbad hr5 hm5 hbd hfew hlq ht
  go_quiet (fail)
  go_upto_region 8 with (go_at_call 36;refine (HFL.out _ (below_drewN (Below.refl _ _) _)).mono ?_;clear HFL;rintro e w6 ⟨rfl,ht⟩;have HT6:=ke ht;clear ht)
  have HXR6:Hid (Bx w6 w.heap.size #[.int .i64 0,.int .i32 0,.string ⟨#[]⟩,.string ⟨#[]⟩,.string ⟨#[]⟩,.slice none 0 0,.string ⟨#[]⟩,.int .i64 0] 35):=ke ((HXR5.out.next (below_drewN (Below.refl _ _) _)).grown HT6.out.1 (show w.heap.size≠w1.heap.size by omega))
  have HWB6:Hid (Below w.heap.size w w6):=ke (abv (HWB5.out.trans (below_drewN (Below.refl _ _) _ |>.mono HWB5.out.size)) HT6.out.1 (show w.heap.size≤w1.heap.size by omega))
  clear c0 c2 c3 c4
  obtain ⟨q6,hm6,hr6⟩:=HT6.out.2
  have hlq:=hm6.lt
  obtain ⟨_,_,_,c3,c4,_⟩:=hm6.cells
  have hb6:=hr6.2.2.2.1 (by rw [HT3.out.1];decide)
  rw [hb6.1,HT3.out.1] at c3
  rw [hb6.2.1,HT3.out.2] at c4
  dsimp only at c3 c4 hlq
  clear hb6 hm6 hr6
  go_upto_region 9 with (fail)
  obtain ⟨r0,r1,r2,r3,r4,r5,r6,r7⟩:=HXR6.out.all_8
  have g0:=(HXR6.out).fro 0;have g1:=(HXR6.out).fro 1;have g2:=(HXR6.out).fro 2;have g3:=(HXR6.out).fro 3;have g4:=(HXR6.out).fro 4;have g5:=(HXR6.out).fro 5;have g6:=(HXR6.out).fro 6;have g7:=(HXR6.out).fro 7
  have hl4:=HXR6.out.lt
  have hne1:¬ w1.heap.size=w.heap.size:=by omega
  have hne2:¬ w.heap.size=w1.heap.size:=by omega
  go_region
  go_wp2_with fail
  (try simp only [Exit.inBlock,Exit.then])
  obtain ⟨z0,z1,z2,z3,z4,z5,z6,z7⟩:=((HXR6.out.next (Below.refl _ _).drew).to_8 (.int .i64 0) (.int .i32 0) (.string ⟨#[]⟩) (.string ⟨#[]⟩) (.string ⟨#[]⟩) (.slice none 0 0) (.string ⟨#[]⟩) (.int .i64 0)).all_8
  obtain ⟨y0,y1,y2,y3,y4,y5,y6,y7⟩:=((HXR6.out.to_8 (.int .i64 0) (.int .i32 0) (.string ⟨#[]⟩) (.string ⟨#[]⟩) (.string ⟨#[]⟩) (.slice none 0 0) (.string ⟨#[]⟩) (.int .i64 0)).next (Below.refl _ _).drew).all_8
  refine bodyPost_ret (v:=.tuple #[.agg #[.int .i64 0,.int .i32 0,.string ⟨#[]⟩,.string ⟨#[]⟩,.string ⟨#[]⟩,.slice none 0 0,.string ⟨#[]⟩,.int .i64 0],.int .i64 3,.int .i64 ta]) (by simp [results,Tryz.results11,go_sem,z0,z1,z2,z3,z4,z5,z6,z7,y0,y1,y2,y3,y4,y5,y6,y7]) rfl (HPC.out _ _ ⟨noE,rfl,?_,?_⟩)
  ·rw [HT.out];exact ExK.noE _ _ _
  ·first|with_reducible exact acd (HWB6.out).drew (Nat.le_refl _) _ _ _ _ _ _ _ _|with_reducible exact (acd (HWB6.out) (Nat.le_refl _) _ _ _ _ _ _ _ _).drew
end
section
open Go.RowKit
theorem qexpr_wrong (w:World) (s:ByteArray) (hs:s.size≤maxLen) (hec:aie s=0) (hwq:(RX .expr (RS0 s)).2.wc≠0):Calls Tryz.prog 11 #[.string s] w (akc w s):=by
 obtain ⟨Wa,ha⟩:∃ W,w.alloc (.cells #[.int .i64 0,.int .i32 0,.string ⟨#[]⟩,.string ⟨#[]⟩,.string ⟨#[]⟩,.slice none 0 0,.string ⟨#[]⟩,.int .i64 0] 35)=W:=⟨_,rfl⟩
 have ka:Below w.heap.size w Wa:=by rw [← ha];exact (Below.refl _ _).alloc (Nat.le_refl _) _
 have xa:Bx Wa w.heap.size #[.int .i64 0,.int .i32 0,.string ⟨#[]⟩,.string ⟨#[]⟩,.string ⟨#[]⟩,.slice none 0 0,.string ⟨#[]⟩,.int .i64 0] 35:=by rw [← ha];exact Bx.new _ _ _
 have sa:Wa.heap.size=w.heap.size+1:=by rw [← ha];simp
 have HKA:=ke ka
 have HXA:=ke xa
 have HSA:=ke sa
 have HRD:=ke (ahz s Wa hs)
 clear ka xa sa
 subst ha
 unfold afw at HRD
 have hwl:=ah8 s
 have hfw:=ad3 s
 have hwr:=@agk s
 have hrs:=Rel.start s
 have hsz1:=sz_ex1 (RS0 s)
 have hz3:(RS0 s).len≤8000:=by simpa [RS0,RS.len] using ad3 s
 obtain ⟨r,hr⟩:∃ r,exO s=r:=⟨_,rfl⟩
 obtain ⟨q,hq⟩:∃ q,RX .expr (RS0 s)=q:=⟨_,rfl⟩
 have HT:Hid (exT s=if r.1=0 then hdE q.1 else noE):=ke (by simp only [exT,hr,ag3,hq])
 have HR:Hid ((if q.2.fin.wc=0 then (if (hdE q.1).size≤3000∧abk (hdE q.1)≤40 then ((0:Int),(0:Int)) else (5,0)) else (q.2.fin.wc,q.2.fin.wa))=r):=ke (by rw [← hr];simp only [exO,ag3,hq])
 have HPC:Hid (∀ e w',(∃ y,e=.returned (.tuple #[.agg (aab y).toArray,.int .i64 r.1,.int .i64 r.2])∧ExK w.heap.size none w' (exT s) y∧Below w.heap.size w w')→akc w s e w'):=ke (by intro e w' h;unfold akc;rw [hr];exact h)
 rw [ag3,hq] at hsz1
 rw [hq] at hwq
 have HS:Hid ((hdE q.1).size≤16001):=ke (by omega)
 rw [hr] at hwr
 obtain ⟨ec,hec1⟩:∃ x,aie s=x:=⟨_,rfl⟩
 rw [hec1] at hec
 obtain ⟨ea,hea⟩:∃ x,allA s=x:=⟨_,rfl⟩
 obtain ⟨ws,hws⟩:∃ x,afv s=x:=⟨_,rfl⟩
 rw [hec1,hea,hws] at HRD
 rw [hec1,hea] at hwr
 rw [hec1,hws] at hrs
 rw [hws] at hwl hfw
 have HWL:=ke hwl;have HFW:=ke hfw;have HWR:=ke hwr;have HRS:=ke hrs;have HQ:=ke hq
 clear hwl hfw hwr hrs hsz1 hz3 hr hq hec1 hea hws
 go_enter Tryz.func11,Tryz.ntmps11
 go_upto_region 2 with (go_at_call 18;refine HRD.out.mono ?_;rintro e w1 ⟨v,rfl,ho,hb⟩;have HO:=ke ho;obtain ⟨A,cap,rfl,hlc⟩:=abc ho;have HB1:=ke hb;have HLC:=ke hlc;clear ho hb hlc HRD)
 have HXR1:Hid (Bx w1 w.heap.size #[.int .i64 0,.int .i32 0,.string ⟨#[]⟩,.string ⟨#[]⟩,.string ⟨#[]⟩,.slice none 0 0,.string ⟨#[]⟩,.int .i64 0] 35):=ke (HXA.out.next HB1.out)
 have HWB1:Hid (Below w.heap.size w w1):=ke (HKA.out.trans (HB1.out.mono HKA.out.size))
 ·subst hec
  have h0b:((0:Int) != 0)=false:=by simp
  have hrs:=HRS.out rfl
  go_upto_region 5 with (fail)
  refine aak (F:=fun W=>Bx W w1.heap.size (qcs (⟨w1,w1.heap.size,ws,s.size,A,cap⟩:QC) QS0) 63∧Below w1.heap.size w1 W) ⟨Bx.new _ _ _,(Below.refl _ _).alloc (Nat.le_refl _) _⟩ ?_
  rintro w3 ⟨hx3,hb3⟩
  have hok:(⟨w1,w1.heap.size,ws,s.size,A,cap⟩:QC).ok:=ahc HO.out HWL.out HFW.out HLC.out (Nat.le_refl _) w1 (Below.refl _ _) _
  have hrq:Rq (⟨w1,w1.heap.size,ws,s.size,A,cap⟩:QC) (RS0 s) w3:=⟨QS0,⟨⟨hb3.os,hb3.tape,hb3.output,hb3.size,fun k hk _=>hb3.block k hk⟩,hok,Nat.zero_le _,hx3⟩,hrs⟩
  have HB3:=ke hb3
  have HQX:Hid (Calls Tryz.prog 35 #[.pointer (some ⟨w1.heap.size,0,none⟩)] w3 (ExQ (⟨w1,w1.heap.size,ws,s.size,A,cap⟩:QC) w3 q)):=ke (by have:=ag8 hrq;rw [HQ.out] at this;exact this)
  have hw13:w1.heap.size < w3.heap.size:=hx3.lt
  have hw01:w.heap.size < w1.heap.size:=HXR1.out.lt
  clear hrs hx3 hb3 hok hrq
  go_upto_region 6 with (go_at_call 35;refine HQX.out.mono ?_;clear HQX;rintro e w4 ⟨x,y,rfl,hk,hbare,hmv⟩;have HK:=ke hk;have HBR:=ke hbare;obtain ⟨k,n,tx,nm,ty,Ae,cape,l,rfl,hsz,_,_⟩:=hk;(try simp only [aab]);have HMV:=ke hmv;clear hmv hbare)
  refine aak (F:=fun W=>Bx W w4.heap.size #[.int .i64 k,.int .i32 n,.string tx,.string nm,.string ty,.slice Ae l.length cape,.string ⟨#[]⟩,.int .i64 0] 35∧Below w4.heap.size w4 W) ⟨Bx.new _ _ _,(Below.refl _ _).alloc (Nat.le_refl _) _⟩ ?_
  rintro w5 ⟨hx5,hb5⟩
  have HX5:=ke hx5;have HB5:=ke hb5
  have hw34:w3.heap.size≤w4.heap.size:=HMV.out.1.size
  have HRQ5:Hid (Rq (⟨w1,w1.heap.size,ws,s.size,A,cap⟩:QC) q.2 w5):=ke (HMV.out.2.below hb5)
  have HWB5:Hid (Below w.heap.size w w5):=by
   have k3:=HWB1.out.trans (HB3.out.mono HWB1.out.size)
   have k4:=abv k3 HMV.out.1 (show w.heap.size≤w1.heap.size by omega)
   exact ke (k4.trans (hb5.mono k4.size))
  have HXR5:Hid (Bx w5 w.heap.size #[.int .i64 0,.int .i32 0,.string ⟨#[]⟩,.string ⟨#[]⟩,.string ⟨#[]⟩,.slice none 0 0,.string ⟨#[]⟩,.int .i64 0] 35):=ke (((HXR1.out.next HB3.out).grown HMV.out.1 (show w.heap.size≠w1.heap.size by omega)).next hb5)
  have HK5:Hid (ExK w3.heap.size none w5 x (.ex k n tx nm ty (.slice Ae l.length cape) l ⟨#[]⟩ 0)):=ke (HK.out.below hb5)
  clear hx5 hb5
  obtain ⟨qs,hm5,hr5⟩:=HRQ5.out
  obtain ⟨c0,_,c2,c3,c4,_⟩:=hm5.cells
  have hfew:=hm5.few
  have hbad:=hr5.bad
  have hlq:=hm5.lt
  dsimp only at c0 c2 c3 c4 hfew hlq
  have hne1:¬ w1.heap.size=w.heap.size:=by omega
  have hne2:¬ w.heap.size=w1.heap.size:=by omega
  have hq0:=hwq
  have hb5:=hr5.2.2.2.1 hq0
  have hwz:q.2.ws=[]:=hb5.2.2
  have hfin:q.2.fin=q.2:=fin_nil hwz
  obtain ⟨tc,htc⟩:∃ x,q.2.wc=x:=⟨_,rfl⟩
  obtain ⟨ta,hta⟩:∃ x,q.2.wa=x:=⟨_,rfl⟩
  rw [hb5.1,htc] at c3
  rw [hb5.2.1,hta] at c4
  rw [htc] at hq0
  have hr0:r=(tc,ta):=by have:=HR.out;rw [hfin,htc,hta,if_neg hq0] at this;exact this.symm
  subst hr0
  have hqb:(tc == 0)=false:=by simpa using hq0
  have hqn:(tc != 0)=true:=by simpa using hq0
  clear hb5 hwz hfin htc hta hbad hr5 hm5 hfew
  go_quiet (fail)
  go_upto_region 9 with (fail)
  refine aak (F:=fun W=>Below w5.heap.size w5 W) (below_drewN (Below.refl _ _) _) ?_
  rintro w6 hb6
  have HXR6:=ke (HXR5.out.next hb6)
  have HWB6:=ke (HWB5.out.trans (hb6.mono HWB5.out.size))
  replace c3:=Keep.below hb6 _ _ c3
  replace c4:=Keep.below hb6 _ _ c4
  have hls:=hb6.size
  clear hb6 c0 c2
  obtain ⟨r0,r1,r2,r3,r4,r5,r6,r7⟩:=HXR6.out.all_8
  have g0:=(HXR6.out).fro 0;have g1:=(HXR6.out).fro 1;have g2:=(HXR6.out).fro 2;have g3:=(HXR6.out).fro 3;have g4:=(HXR6.out).fro 4;have g5:=(HXR6.out).fro 5;have g6:=(HXR6.out).fro 6;have g7:=(HXR6.out).fro 7
  have hl4:=HXR6.out.lt
  have hne1:¬ w1.heap.size=w.heap.size:=by omega
  have hne2:¬ w.heap.size=w1.heap.size:=by omega
  go_region
  go_wp2_with fail
  (try simp only [Exit.inBlock,Exit.then])
  obtain ⟨z0,z1,z2,z3,z4,z5,z6,z7⟩:=((HXR6.out.next (Below.refl _ _).drew).to_8 (.int .i64 0) (.int .i32 0) (.string ⟨#[]⟩) (.string ⟨#[]⟩) (.string ⟨#[]⟩) (.slice none 0 0) (.string ⟨#[]⟩) (.int .i64 0)).all_8
  obtain ⟨y0,y1,y2,y3,y4,y5,y6,y7⟩:=((HXR6.out.to_8 (.int .i64 0) (.int .i32 0) (.string ⟨#[]⟩) (.string ⟨#[]⟩) (.string ⟨#[]⟩) (.slice none 0 0) (.string ⟨#[]⟩) (.int .i64 0)).next (Below.refl _ _).drew).all_8
  refine bodyPost_ret (v:=.tuple #[.agg #[.int .i64 0,.int .i32 0,.string ⟨#[]⟩,.string ⟨#[]⟩,.string ⟨#[]⟩,.slice none 0 0,.string ⟨#[]⟩,.int .i64 0],.int .i64 tc,.int .i64 ta]) (by simp [results,Tryz.results11,go_sem,z0,z1,z2,z3,z4,z5,z6,z7,y0,y1,y2,y3,y4,y5,y6,y7]) rfl (HPC.out _ _ ⟨noE,rfl,?_,?_⟩)
  ·rw [HT.out,if_neg hq0];exact ExK.noE _ _ _
  ·first|with_reducible exact acd (HWB6.out).drew (Nat.le_refl _) _ _ _ _ _ _ _ _|with_reducible exact (acd (HWB6.out) (Nat.le_refl _) _ _ _ _ _ _ _ _).drew
end
section
open Go.RowKit
theorem qexpr_many (w:World) (s:ByteArray) (hs:s.size≤maxLen) (hec:aie s=0) (hwq:(RX .expr (RS0 s)).2.wc=0) (hwsq:(RX .expr (RS0 s)).2.ws=[]) (hszq:3000 < (hdE (RX .expr (RS0 s)).1).size):Calls Tryz.prog 11 #[.string s] w (akc w s):=by
 obtain ⟨Wa,ha⟩:∃ W,w.alloc (.cells #[.int .i64 0,.int .i32 0,.string ⟨#[]⟩,.string ⟨#[]⟩,.string ⟨#[]⟩,.slice none 0 0,.string ⟨#[]⟩,.int .i64 0] 35)=W:=⟨_,rfl⟩
 have ka:Below w.heap.size w Wa:=by rw [← ha];exact (Below.refl _ _).alloc (Nat.le_refl _) _
 have xa:Bx Wa w.heap.size #[.int .i64 0,.int .i32 0,.string ⟨#[]⟩,.string ⟨#[]⟩,.string ⟨#[]⟩,.slice none 0 0,.string ⟨#[]⟩,.int .i64 0] 35:=by rw [← ha];exact Bx.new _ _ _
 have sa:Wa.heap.size=w.heap.size+1:=by rw [← ha];simp
 have HKA:=ke ka
 have HXA:=ke xa
 have HSA:=ke sa
 have HRD:=ke (ahz s Wa hs)
 clear ka xa sa
 subst ha
 unfold afw at HRD
 have hwl:=ah8 s
 have hfw:=ad3 s
 have hwr:=@agk s
 have hrs:=Rel.start s
 have hsz1:=sz_ex1 (RS0 s)
 have hz3:(RS0 s).len≤8000:=by simpa [RS0,RS.len] using ad3 s
 obtain ⟨r,hr⟩:∃ r,exO s=r:=⟨_,rfl⟩
 obtain ⟨q,hq⟩:∃ q,RX .expr (RS0 s)=q:=⟨_,rfl⟩
 have HT:Hid (exT s=if r.1=0 then hdE q.1 else noE):=ke (by simp only [exT,hr,ag3,hq])
 have HR:Hid ((if q.2.fin.wc=0 then (if (hdE q.1).size≤3000∧abk (hdE q.1)≤40 then ((0:Int),(0:Int)) else (5,0)) else (q.2.fin.wc,q.2.fin.wa))=r):=ke (by rw [← hr];simp only [exO,ag3,hq])
 have HPC:Hid (∀ e w',(∃ y,e=.returned (.tuple #[.agg (aab y).toArray,.int .i64 r.1,.int .i64 r.2])∧ExK w.heap.size none w' (exT s) y∧Below w.heap.size w w')→akc w s e w'):=ke (by intro e w' h;unfold akc;rw [hr];exact h)
 rw [ag3,hq] at hsz1
 rw [hq] at hwq
 rw [hq] at hwsq
 rw [hq] at hszq
 have HS:Hid ((hdE q.1).size≤16001):=ke (by omega)
 rw [hr] at hwr
 obtain ⟨ec,hec1⟩:∃ x,aie s=x:=⟨_,rfl⟩
 rw [hec1] at hec
 obtain ⟨ea,hea⟩:∃ x,allA s=x:=⟨_,rfl⟩
 obtain ⟨ws,hws⟩:∃ x,afv s=x:=⟨_,rfl⟩
 rw [hec1,hea,hws] at HRD
 rw [hec1,hea] at hwr
 rw [hec1,hws] at hrs
 rw [hws] at hwl hfw
 have HWL:=ke hwl;have HFW:=ke hfw;have HWR:=ke hwr;have HRS:=ke hrs;have HQ:=ke hq
 clear hwl hfw hwr hrs hsz1 hz3 hr hq hec1 hea hws
 go_enter Tryz.func11,Tryz.ntmps11
 go_upto_region 2 with (go_at_call 18;refine HRD.out.mono ?_;rintro e w1 ⟨v,rfl,ho,hb⟩;have HO:=ke ho;obtain ⟨A,cap,rfl,hlc⟩:=abc ho;have HB1:=ke hb;have HLC:=ke hlc;clear ho hb hlc HRD)
 have HXR1:Hid (Bx w1 w.heap.size #[.int .i64 0,.int .i32 0,.string ⟨#[]⟩,.string ⟨#[]⟩,.string ⟨#[]⟩,.slice none 0 0,.string ⟨#[]⟩,.int .i64 0] 35):=ke (HXA.out.next HB1.out)
 have HWB1:Hid (Below w.heap.size w w1):=ke (HKA.out.trans (HB1.out.mono HKA.out.size))
 ·subst hec
  have h0b:((0:Int) != 0)=false:=by simp
  have hrs:=HRS.out rfl
  go_upto_region 5 with (fail)
  refine aak (F:=fun W=>Bx W w1.heap.size (qcs (⟨w1,w1.heap.size,ws,s.size,A,cap⟩:QC) QS0) 63∧Below w1.heap.size w1 W) ⟨Bx.new _ _ _,(Below.refl _ _).alloc (Nat.le_refl _) _⟩ ?_
  rintro w3 ⟨hx3,hb3⟩
  have hok:(⟨w1,w1.heap.size,ws,s.size,A,cap⟩:QC).ok:=ahc HO.out HWL.out HFW.out HLC.out (Nat.le_refl _) w1 (Below.refl _ _) _
  have hrq:Rq (⟨w1,w1.heap.size,ws,s.size,A,cap⟩:QC) (RS0 s) w3:=⟨QS0,⟨⟨hb3.os,hb3.tape,hb3.output,hb3.size,fun k hk _=>hb3.block k hk⟩,hok,Nat.zero_le _,hx3⟩,hrs⟩
  have HB3:=ke hb3
  have HQX:Hid (Calls Tryz.prog 35 #[.pointer (some ⟨w1.heap.size,0,none⟩)] w3 (ExQ (⟨w1,w1.heap.size,ws,s.size,A,cap⟩:QC) w3 q)):=ke (by have:=ag8 hrq;rw [HQ.out] at this;exact this)
  have hw13:w1.heap.size < w3.heap.size:=hx3.lt
  have hw01:w.heap.size < w1.heap.size:=HXR1.out.lt
  clear hrs hx3 hb3 hok hrq
  go_upto_region 6 with (go_at_call 35;refine HQX.out.mono ?_;clear HQX;rintro e w4 ⟨x,y,rfl,hk,hbare,hmv⟩;have HK:=ke hk;have HBR:=ke hbare;obtain ⟨k,n,tx,nm,ty,Ae,cape,l,rfl,hsz,_,_⟩:=hk;(try simp only [aab]);have HMV:=ke hmv;clear hmv hbare)
  refine aak (F:=fun W=>Bx W w4.heap.size #[.int .i64 k,.int .i32 n,.string tx,.string nm,.string ty,.slice Ae l.length cape,.string ⟨#[]⟩,.int .i64 0] 35∧Below w4.heap.size w4 W) ⟨Bx.new _ _ _,(Below.refl _ _).alloc (Nat.le_refl _) _⟩ ?_
  rintro w5 ⟨hx5,hb5⟩
  have HX5:=ke hx5;have HB5:=ke hb5
  have hw34:w3.heap.size≤w4.heap.size:=HMV.out.1.size
  have HRQ5:Hid (Rq (⟨w1,w1.heap.size,ws,s.size,A,cap⟩:QC) q.2 w5):=ke (HMV.out.2.below hb5)
  have HWB5:Hid (Below w.heap.size w w5):=by
   have k3:=HWB1.out.trans (HB3.out.mono HWB1.out.size)
   have k4:=abv k3 HMV.out.1 (show w.heap.size≤w1.heap.size by omega)
   exact ke (k4.trans (hb5.mono k4.size))
  have HXR5:Hid (Bx w5 w.heap.size #[.int .i64 0,.int .i32 0,.string ⟨#[]⟩,.string ⟨#[]⟩,.string ⟨#[]⟩,.slice none 0 0,.string ⟨#[]⟩,.int .i64 0] 35):=ke (((HXR1.out.next HB3.out).grown HMV.out.1 (show w.heap.size≠w1.heap.size by omega)).next hb5)
  have HK5:Hid (ExK w3.heap.size none w5 x (.ex k n tx nm ty (.slice Ae l.length cape) l ⟨#[]⟩ 0)):=ke (HK.out.below hb5)
  clear hx5 hb5
  obtain ⟨qs,hm5,hr5⟩:=HRQ5.out
  obtain ⟨c0,_,c2,c3,c4,_⟩:=hm5.cells
  have hfew:=hm5.few
  have hbad:=hr5.bad
  have hlq:=hm5.lt
  dsimp only at c0 c2 c3 c4 hfew hlq
  have hne1:¬ w1.heap.size=w.heap.size:=by omega
  have hne2:¬ w.heap.size=w1.heap.size:=by omega
  have hq0:=hwq
  have hbd:qs.bd=0:=hbad.trans hq0
  rw [hbd] at c3
  have hws:=(hr5.2.2.1 hq0).2.1
  have hkl:¬ qs.k < ws.length:=by
   intro hn
   rw [hws] at hwsq
   simp at hwsq
   omega
  have hkl':(ws.length:Int)≤(qs.k:Int):=by omega
  have hwz:q.2.ws=[]:=by rw [hws,List.drop_eq_nil_of_le (show ws.length≤qs.k by omega)];rfl
  have hfin:q.2.fin=q.2:=fin_nil hwz
  have hbare:=HK5.out.bare.trans (HBR.out hq0)
  obtain ⟨sz,hsz0⟩:∃ m,(Nd.ex k n tx nm ty (.slice Ae l.length cape) l ⟨#[]⟩ 0).size=m:=⟨_,rfl⟩
  obtain ⟨d,hd0⟩:∃ m,abk (Nd.ex k n tx nm ty (.slice Ae l.length cape) l ⟨#[]⟩ 0)=m:=⟨_,rfl⟩
  have hsq:(hdE q.1).size=sz:=by
   have:=ada (a:=[hdE q.1]) (b:=[Nd.ex k n tx nm ty (.slice Ae l.length cape) l ⟨#[]⟩ 0]) (by simp only [aai];rw [hbare])
   rw [ab1,ab1] at this;rw [this,hsz0]
  have hdq:abk (hdE q.1)=d:=by
   rw [← adg _ _ (Nat.le_refl _),← hbare,adg _ _ (Nat.le_refl _),hd0]
  have hsm:sz≤20000:=by have:=HS.out;omega
  have hdm:d≤20000:=by have:=ael _ _ (Nat.le_refl (Nd.ex k n tx nm ty (.slice Ae l.length cape) l ⟨#[]⟩ 0).size);omega
  have hsl:aal l≤20000:=by
   have:(Nd.ex k n tx nm ty (.slice Ae l.length cape) l ⟨#[]⟩ 0).size=1+aal l:=by simp [Nd.size]
   omega
  have HSZ:Hid (∀ w',Below w5.heap.size w5 w'→Calls Tryz.prog 37 #[.agg #[.int .i64 k,.int .i32 n,.string tx,.string nm,.string ty,.slice Ae l.length cape,.string ⟨#[]⟩,.int .i64 0]] w' fun e w''=>e=.returned (.int .i64 sz)∧Below w'.heap.size w' w'') :=
   ke fun w' hb=>by have:=agq 20000 (by decide) (agp 20000 (by decide)) w' k n tx nm ty _ l _ _ (HK5.out.below hb).now hsl;rw [hsz0] at this;exact this
  have HDP:Hid (∀ w',Below w5.heap.size w5 w'→Calls Tryz.prog 38 #[.agg #[.int .i64 k,.int .i32 n,.string tx,.string nm,.string ty,.slice Ae l.length cape,.string ⟨#[]⟩,.int .i64 0]] w' fun e w''=>e=.returned (.int .i64 d)∧Below w'.heap.size w' w'') :=
   ke fun w' hb=>by have:=qdeep_row 20000 (by decide) w' k n tx nm ty _ l _ _ (HK5.out.below hb).now (by omega);rw [hd0] at this;exact this
  have hrr:=HR.out
  rw [hfin,hq0,if_pos rfl,hsq,hdq] at hrr
  have hex:aaq (.ex k n tx nm ty (.slice Ae l.length cape) l ⟨#[]⟩ 0)=aaq (hdE q.1):=hbare
  have HEX:=ke hex
  have h0b:((0:Int) != 0)=false:=by simp
  have HSQ:=ke hsq;have HDQ:=ke hdq;clear hsq hdq hsz0 hd0 hbare hfin hwz hws hbad hr5 hm5 hfew hlq hbd hex hsl
  have h1:(3000:Int) < sz:=by have:=hszq;rw [HSQ.out] at this;omega
  have hr0:r=(5,0):=by rw [if_neg (by omega)] at hrr;exact hrr.symm
  subst hr0
  clear hrr
  go_quiet (fail)
  go_upto_region 10 with (fail)
  refine aak (F:=fun W=>Below w5.heap.size w5 W) (below_drewN (Below.refl _ _) _) ?_
  rintro w6 hb6
  have HX6:=ke (HX5.out.next hb6)
  have HXR6:=ke (HXR5.out.next hb6)
  have HWB6:=ke (HWB5.out.trans (hb6.mono HWB5.out.size))
  have HK6:=ke (HK5.out.below hb6)
  have HB6:=ke hb6
  have hls:=hb6.size
  obtain ⟨p0,p1,p2,p3,p4,p5,p6,p7⟩:=HX6.out.all_8
  have hl5:=HX6.out.lt
  clear hb6 c0 c2 c3 c4
  go_wp2_with (first|(go_at_call 37;refine (HSZ.out _ HB6.out).mono ?_;rintro e w7 ⟨rfl,hb⟩;obtain ⟨r0,r1,r2,r3,r4,r5,r6,r7⟩:=(HXR6.out.next hb).all_8;have g0:=(HXR6.out.next hb).fro 0;have g1:=(HXR6.out.next hb).fro 1;have g2:=(HXR6.out.next hb).fro 2;have g3:=(HXR6.out.next hb).fro 3;have g4:=(HXR6.out.next hb).fro 4;have g5:=(HXR6.out.next hb).fro 5;have g6:=(HXR6.out.next hb).fro 6;have g7:=(HXR6.out.next hb).fro 7;obtain ⟨p0,p1,p2,p3,p4,p5,p6,p7⟩:=(HX6.out.next hb).all_8;have hl4:=(HXR6.out.next hb).lt;have hl5:=(HX6.out.next hb).lt;have HB7:=ke hb;have HB67:=ke (HB6.out.trans (hb.mono HB6.out.size));clear hb)|(go_at_call 38;refine (HDP.out _ HB67.out).mono ?_;rintro e w8 ⟨rfl,hb8⟩;have hb:=HB7.out.trans (hb8.mono HB7.out.size);obtain ⟨r0,r1,r2,r3,r4,r5,r6,r7⟩:=(HXR6.out.next hb).all_8;have g0:=(HXR6.out.next hb).fro 0;have g1:=(HXR6.out.next hb).fro 1;have g2:=(HXR6.out.next hb).fro 2;have g3:=(HXR6.out.next hb).fro 3;have g4:=(HXR6.out.next hb).fro 4;have g5:=(HXR6.out.next hb).fro 5;have g6:=(HXR6.out.next hb).fro 6;have g7:=(HXR6.out.next hb).fro 7;obtain ⟨p0,p1,p2,p3,p4,p5,p6,p7⟩:=(HX6.out.next hb).all_8;have hl4:=(HXR6.out.next hb).lt;have hl5:=(HX6.out.next hb).lt;have HB8:=ke hb;clear hb hb8))
  (try simp only [Exit.inBlock,Exit.then])
  obtain ⟨z0,z1,z2,z3,z4,z5,z6,z7⟩:=((HXR6.out.next HB7.out).to_8 (.int .i64 0) (.int .i32 0) (.string ⟨#[]⟩) (.string ⟨#[]⟩) (.string ⟨#[]⟩) (.slice none 0 0) (.string ⟨#[]⟩) (.int .i64 0)).all_8
  refine bodyPost_ret (v:=.tuple #[.agg #[.int .i64 0,.int .i32 0,.string ⟨#[]⟩,.string ⟨#[]⟩,.string ⟨#[]⟩,.slice none 0 0,.string ⟨#[]⟩,.int .i64 0],.int .i64 5,.int .i64 0]) (by simp [results,Tryz.results11,go_sem,z0,z1,z2,z3,z4,z5,z6,z7]) rfl (HPC.out _ _ ⟨noE,rfl,?_,?_⟩)
  ·rw [HT.out];exact ExK.noE _ _ _
  ·with_reducible exact acd (HWB6.out.trans (HB7.out.mono HWB6.out.size)) (Nat.le_refl _) _ _ _ _ _ _ _ _
end
section
open Go.RowKit
theorem qexpr_deep (w:World) (s:ByteArray) (hs:s.size≤maxLen) (hec:aie s=0) (hwq:(RX .expr (RS0 s)).2.wc=0) (hwsq:(RX .expr (RS0 s)).2.ws=[]) (hszq:(hdE (RX .expr (RS0 s)).1).size≤3000) (hdz:40 < abk (hdE (RX .expr (RS0 s)).1)):Calls Tryz.prog 11 #[.string s] w (akc w s):=by
 obtain ⟨Wa,ha⟩:∃ W,w.alloc (.cells #[.int .i64 0,.int .i32 0,.string ⟨#[]⟩,.string ⟨#[]⟩,.string ⟨#[]⟩,.slice none 0 0,.string ⟨#[]⟩,.int .i64 0] 35)=W:=⟨_,rfl⟩
 have ka:Below w.heap.size w Wa:=by rw [← ha];exact (Below.refl _ _).alloc (Nat.le_refl _) _
 have xa:Bx Wa w.heap.size #[.int .i64 0,.int .i32 0,.string ⟨#[]⟩,.string ⟨#[]⟩,.string ⟨#[]⟩,.slice none 0 0,.string ⟨#[]⟩,.int .i64 0] 35:=by rw [← ha];exact Bx.new _ _ _
 have sa:Wa.heap.size=w.heap.size+1:=by rw [← ha];simp
 have HKA:=ke ka
 have HXA:=ke xa
 have HSA:=ke sa
 have HRD:=ke (ahz s Wa hs)
 clear ka xa sa
 subst ha
 unfold afw at HRD
 have hwl:=ah8 s
 have hfw:=ad3 s
 have hwr:=@agk s
 have hrs:=Rel.start s
 have hsz1:=sz_ex1 (RS0 s)
 have hz3:(RS0 s).len≤8000:=by simpa [RS0,RS.len] using ad3 s
 obtain ⟨r,hr⟩:∃ r,exO s=r:=⟨_,rfl⟩
 obtain ⟨q,hq⟩:∃ q,RX .expr (RS0 s)=q:=⟨_,rfl⟩
 have HT:Hid (exT s=if r.1=0 then hdE q.1 else noE):=ke (by simp only [exT,hr,ag3,hq])
 have HR:Hid ((if q.2.fin.wc=0 then (if (hdE q.1).size≤3000∧abk (hdE q.1)≤40 then ((0:Int),(0:Int)) else (5,0)) else (q.2.fin.wc,q.2.fin.wa))=r):=ke (by rw [← hr];simp only [exO,ag3,hq])
 have HPC:Hid (∀ e w',(∃ y,e=.returned (.tuple #[.agg (aab y).toArray,.int .i64 r.1,.int .i64 r.2])∧ExK w.heap.size none w' (exT s) y∧Below w.heap.size w w')→akc w s e w'):=ke (by intro e w' h;unfold akc;rw [hr];exact h)
 rw [ag3,hq] at hsz1
 rw [hq] at hwq
 rw [hq] at hwsq
 rw [hq] at hszq
 rw [hq] at hdz
 have HS:Hid ((hdE q.1).size≤16001):=ke (by omega)
 rw [hr] at hwr
 obtain ⟨ec,hec1⟩:∃ x,aie s=x:=⟨_,rfl⟩
 rw [hec1] at hec
 obtain ⟨ea,hea⟩:∃ x,allA s=x:=⟨_,rfl⟩
 obtain ⟨ws,hws⟩:∃ x,afv s=x:=⟨_,rfl⟩
 rw [hec1,hea,hws] at HRD
 rw [hec1,hea] at hwr
 rw [hec1,hws] at hrs
 rw [hws] at hwl hfw
 have HWL:=ke hwl;have HFW:=ke hfw;have HWR:=ke hwr;have HRS:=ke hrs;have HQ:=ke hq
 clear hwl hfw hwr hrs hsz1 hz3 hr hq hec1 hea hws
 go_enter Tryz.func11,Tryz.ntmps11
 go_upto_region 2 with (go_at_call 18;refine HRD.out.mono ?_;rintro e w1 ⟨v,rfl,ho,hb⟩;have HO:=ke ho;obtain ⟨A,cap,rfl,hlc⟩:=abc ho;have HB1:=ke hb;have HLC:=ke hlc;clear ho hb hlc HRD)
 have HXR1:Hid (Bx w1 w.heap.size #[.int .i64 0,.int .i32 0,.string ⟨#[]⟩,.string ⟨#[]⟩,.string ⟨#[]⟩,.slice none 0 0,.string ⟨#[]⟩,.int .i64 0] 35):=ke (HXA.out.next HB1.out)
 have HWB1:Hid (Below w.heap.size w w1):=ke (HKA.out.trans (HB1.out.mono HKA.out.size))
 ·subst hec
  have h0b:((0:Int) != 0)=false:=by simp
  have hrs:=HRS.out rfl
  go_upto_region 5 with (fail)
  refine aak (F:=fun W=>Bx W w1.heap.size (qcs (⟨w1,w1.heap.size,ws,s.size,A,cap⟩:QC) QS0) 63∧Below w1.heap.size w1 W) ⟨Bx.new _ _ _,(Below.refl _ _).alloc (Nat.le_refl _) _⟩ ?_
  rintro w3 ⟨hx3,hb3⟩
  have hok:(⟨w1,w1.heap.size,ws,s.size,A,cap⟩:QC).ok:=ahc HO.out HWL.out HFW.out HLC.out (Nat.le_refl _) w1 (Below.refl _ _) _
  have hrq:Rq (⟨w1,w1.heap.size,ws,s.size,A,cap⟩:QC) (RS0 s) w3:=⟨QS0,⟨⟨hb3.os,hb3.tape,hb3.output,hb3.size,fun k hk _=>hb3.block k hk⟩,hok,Nat.zero_le _,hx3⟩,hrs⟩
  have HB3:=ke hb3
  have HQX:Hid (Calls Tryz.prog 35 #[.pointer (some ⟨w1.heap.size,0,none⟩)] w3 (ExQ (⟨w1,w1.heap.size,ws,s.size,A,cap⟩:QC) w3 q)):=ke (by have:=ag8 hrq;rw [HQ.out] at this;exact this)
  have hw13:w1.heap.size < w3.heap.size:=hx3.lt
  have hw01:w.heap.size < w1.heap.size:=HXR1.out.lt
  clear hrs hx3 hb3 hok hrq
  go_upto_region 6 with (go_at_call 35;refine HQX.out.mono ?_;clear HQX;rintro e w4 ⟨x,y,rfl,hk,hbare,hmv⟩;have HK:=ke hk;have HBR:=ke hbare;obtain ⟨k,n,tx,nm,ty,Ae,cape,l,rfl,hsz,_,_⟩:=hk;(try simp only [aab]);have HMV:=ke hmv;clear hmv hbare)
  refine aak (F:=fun W=>Bx W w4.heap.size #[.int .i64 k,.int .i32 n,.string tx,.string nm,.string ty,.slice Ae l.length cape,.string ⟨#[]⟩,.int .i64 0] 35∧Below w4.heap.size w4 W) ⟨Bx.new _ _ _,(Below.refl _ _).alloc (Nat.le_refl _) _⟩ ?_
  rintro w5 ⟨hx5,hb5⟩
  have HX5:=ke hx5;have HB5:=ke hb5
  have hw34:w3.heap.size≤w4.heap.size:=HMV.out.1.size
  have HRQ5:Hid (Rq (⟨w1,w1.heap.size,ws,s.size,A,cap⟩:QC) q.2 w5):=ke (HMV.out.2.below hb5)
  have HWB5:Hid (Below w.heap.size w w5):=by
   have k3:=HWB1.out.trans (HB3.out.mono HWB1.out.size)
   have k4:=abv k3 HMV.out.1 (show w.heap.size≤w1.heap.size by omega)
   exact ke (k4.trans (hb5.mono k4.size))
  have HXR5:Hid (Bx w5 w.heap.size #[.int .i64 0,.int .i32 0,.string ⟨#[]⟩,.string ⟨#[]⟩,.string ⟨#[]⟩,.slice none 0 0,.string ⟨#[]⟩,.int .i64 0] 35):=ke (((HXR1.out.next HB3.out).grown HMV.out.1 (show w.heap.size≠w1.heap.size by omega)).next hb5)
  have HK5:Hid (ExK w3.heap.size none w5 x (.ex k n tx nm ty (.slice Ae l.length cape) l ⟨#[]⟩ 0)):=ke (HK.out.below hb5)
  clear hx5 hb5
  obtain ⟨qs,hm5,hr5⟩:=HRQ5.out
  obtain ⟨c0,_,c2,c3,c4,_⟩:=hm5.cells
  have hfew:=hm5.few
  have hbad:=hr5.bad
  have hlq:=hm5.lt
  dsimp only at c0 c2 c3 c4 hfew hlq
  have hne1:¬ w1.heap.size=w.heap.size:=by omega
  have hne2:¬ w.heap.size=w1.heap.size:=by omega
  have hq0:=hwq
  have hbd:qs.bd=0:=hbad.trans hq0
  rw [hbd] at c3
  have hws:=(hr5.2.2.1 hq0).2.1
  have hkl:¬ qs.k < ws.length:=by
   intro hn
   rw [hws] at hwsq
   simp at hwsq
   omega
  have hkl':(ws.length:Int)≤(qs.k:Int):=by omega
  have hwz:q.2.ws=[]:=by rw [hws,List.drop_eq_nil_of_le (show ws.length≤qs.k by omega)];rfl
  have hfin:q.2.fin=q.2:=fin_nil hwz
  have hbare:=HK5.out.bare.trans (HBR.out hq0)
  obtain ⟨sz,hsz0⟩:∃ m,(Nd.ex k n tx nm ty (.slice Ae l.length cape) l ⟨#[]⟩ 0).size=m:=⟨_,rfl⟩
  obtain ⟨d,hd0⟩:∃ m,abk (Nd.ex k n tx nm ty (.slice Ae l.length cape) l ⟨#[]⟩ 0)=m:=⟨_,rfl⟩
  have hsq:(hdE q.1).size=sz:=by
   have:=ada (a:=[hdE q.1]) (b:=[Nd.ex k n tx nm ty (.slice Ae l.length cape) l ⟨#[]⟩ 0]) (by simp only [aai];rw [hbare])
   rw [ab1,ab1] at this;rw [this,hsz0]
  have hdq:abk (hdE q.1)=d:=by
   rw [← adg _ _ (Nat.le_refl _),← hbare,adg _ _ (Nat.le_refl _),hd0]
  have hsm:sz≤20000:=by have:=HS.out;omega
  have hdm:d≤20000:=by have:=ael _ _ (Nat.le_refl (Nd.ex k n tx nm ty (.slice Ae l.length cape) l ⟨#[]⟩ 0).size);omega
  have hsl:aal l≤20000:=by
   have:(Nd.ex k n tx nm ty (.slice Ae l.length cape) l ⟨#[]⟩ 0).size=1+aal l:=by simp [Nd.size]
   omega
  have HSZ:Hid (∀ w',Below w5.heap.size w5 w'→Calls Tryz.prog 37 #[.agg #[.int .i64 k,.int .i32 n,.string tx,.string nm,.string ty,.slice Ae l.length cape,.string ⟨#[]⟩,.int .i64 0]] w' fun e w''=>e=.returned (.int .i64 sz)∧Below w'.heap.size w' w'') :=
   ke fun w' hb=>by have:=agq 20000 (by decide) (agp 20000 (by decide)) w' k n tx nm ty _ l _ _ (HK5.out.below hb).now hsl;rw [hsz0] at this;exact this
  have HDP:Hid (∀ w',Below w5.heap.size w5 w'→Calls Tryz.prog 38 #[.agg #[.int .i64 k,.int .i32 n,.string tx,.string nm,.string ty,.slice Ae l.length cape,.string ⟨#[]⟩,.int .i64 0]] w' fun e w''=>e=.returned (.int .i64 d)∧Below w'.heap.size w' w'') :=
   ke fun w' hb=>by have:=qdeep_row 20000 (by decide) w' k n tx nm ty _ l _ _ (HK5.out.below hb).now (by omega);rw [hd0] at this;exact this
  have hrr:=HR.out
  rw [hfin,hq0,if_pos rfl,hsq,hdq] at hrr
  have hex:aaq (.ex k n tx nm ty (.slice Ae l.length cape) l ⟨#[]⟩ 0)=aaq (hdE q.1):=hbare
  have HEX:=ke hex
  have h0b:((0:Int) != 0)=false:=by simp
  have HSQ:=ke hsq;have HDQ:=ke hdq;clear hsq hdq hsz0 hd0 hbare hfin hwz hws hbad hr5 hm5 hfew hlq hbd hex hsl
  have h1:¬ (3000:Int) < sz:=by have:=hszq;rw [HSQ.out] at this;omega
  have h2:(40:Int) < d:=by have:=hdz;rw [HDQ.out] at this;omega
  have hr0:r=(5,0):=by rw [if_neg (by omega)] at hrr;exact hrr.symm
  subst hr0
  clear hrr
  go_quiet (fail)
  go_upto_region 10 with (fail)
  refine aak (F:=fun W=>Below w5.heap.size w5 W) (below_drewN (Below.refl _ _) _) ?_
  rintro w6 hb6
  have HX6:=ke (HX5.out.next hb6)
  have HXR6:=ke (HXR5.out.next hb6)
  have HWB6:=ke (HWB5.out.trans (hb6.mono HWB5.out.size))
  have HK6:=ke (HK5.out.below hb6)
  have HB6:=ke hb6
  have hls:=hb6.size
  obtain ⟨p0,p1,p2,p3,p4,p5,p6,p7⟩:=HX6.out.all_8
  have hl5:=HX6.out.lt
  clear hb6 c0 c2 c3 c4
  go_wp2_with (first|(go_at_call 37;refine (HSZ.out _ HB6.out).mono ?_;rintro e w7 ⟨rfl,hb⟩;obtain ⟨r0,r1,r2,r3,r4,r5,r6,r7⟩:=(HXR6.out.next hb).all_8;have g0:=(HXR6.out.next hb).fro 0;have g1:=(HXR6.out.next hb).fro 1;have g2:=(HXR6.out.next hb).fro 2;have g3:=(HXR6.out.next hb).fro 3;have g4:=(HXR6.out.next hb).fro 4;have g5:=(HXR6.out.next hb).fro 5;have g6:=(HXR6.out.next hb).fro 6;have g7:=(HXR6.out.next hb).fro 7;obtain ⟨p0,p1,p2,p3,p4,p5,p6,p7⟩:=(HX6.out.next hb).all_8;have hl4:=(HXR6.out.next hb).lt;have hl5:=(HX6.out.next hb).lt;have HB7:=ke hb;have HB67:=ke (HB6.out.trans (hb.mono HB6.out.size));clear hb)|(go_at_call 38;refine (HDP.out _ HB67.out).mono ?_;rintro e w8 ⟨rfl,hb8⟩;have hb:=HB7.out.trans (hb8.mono HB7.out.size);obtain ⟨r0,r1,r2,r3,r4,r5,r6,r7⟩:=(HXR6.out.next hb).all_8;have g0:=(HXR6.out.next hb).fro 0;have g1:=(HXR6.out.next hb).fro 1;have g2:=(HXR6.out.next hb).fro 2;have g3:=(HXR6.out.next hb).fro 3;have g4:=(HXR6.out.next hb).fro 4;have g5:=(HXR6.out.next hb).fro 5;have g6:=(HXR6.out.next hb).fro 6;have g7:=(HXR6.out.next hb).fro 7;obtain ⟨p0,p1,p2,p3,p4,p5,p6,p7⟩:=(HX6.out.next hb).all_8;have hl4:=(HXR6.out.next hb).lt;have hl5:=(HX6.out.next hb).lt;have HB8:=ke hb;clear hb hb8))
  (try simp only [Exit.inBlock,Exit.then])
  obtain ⟨z0,z1,z2,z3,z4,z5,z6,z7⟩:=((HXR6.out.next HB8.out).to_8 (.int .i64 0) (.int .i32 0) (.string ⟨#[]⟩) (.string ⟨#[]⟩) (.string ⟨#[]⟩) (.slice none 0 0) (.string ⟨#[]⟩) (.int .i64 0)).all_8
  refine bodyPost_ret (v:=.tuple #[.agg #[.int .i64 0,.int .i32 0,.string ⟨#[]⟩,.string ⟨#[]⟩,.string ⟨#[]⟩,.slice none 0 0,.string ⟨#[]⟩,.int .i64 0],.int .i64 5,.int .i64 0]) (by simp [results,Tryz.results11,go_sem,z0,z1,z2,z3,z4,z5,z6,z7]) rfl (HPC.out _ _ ⟨noE,rfl,?_,?_⟩)
  ·rw [HT.out];exact ExK.noE _ _ _
  ·with_reducible exact acd (HWB6.out.trans (HB8.out.mono HWB6.out.size)) (Nat.le_refl _) _ _ _ _ _ _ _ _
end
section
open Go.RowKit
theorem qexpr_good (w:World) (s:ByteArray) (hs:s.size≤maxLen) (hec:aie s=0) (hwq:(RX .expr (RS0 s)).2.wc=0) (hwsq:(RX .expr (RS0 s)).2.ws=[]) (hszq:(hdE (RX .expr (RS0 s)).1).size≤3000) (hdz:abk (hdE (RX .expr (RS0 s)).1)≤40):Calls Tryz.prog 11 #[.string s] w (akc w s):=by
 obtain ⟨Wa,ha⟩:∃ W,w.alloc (.cells #[.int .i64 0,.int .i32 0,.string ⟨#[]⟩,.string ⟨#[]⟩,.string ⟨#[]⟩,.slice none 0 0,.string ⟨#[]⟩,.int .i64 0] 35)=W:=⟨_,rfl⟩
 have ka:Below w.heap.size w Wa:=by rw [← ha];exact (Below.refl _ _).alloc (Nat.le_refl _) _
 have xa:Bx Wa w.heap.size #[.int .i64 0,.int .i32 0,.string ⟨#[]⟩,.string ⟨#[]⟩,.string ⟨#[]⟩,.slice none 0 0,.string ⟨#[]⟩,.int .i64 0] 35:=by rw [← ha];exact Bx.new _ _ _
 have sa:Wa.heap.size=w.heap.size+1:=by rw [← ha];simp
 have HKA:=ke ka
 have HXA:=ke xa
 have HSA:=ke sa
 have HRD:=ke (ahz s Wa hs)
 clear ka xa sa
 subst ha
 unfold afw at HRD
 have hwl:=ah8 s
 have hfw:=ad3 s
 have hwr:=@agk s
 have hrs:=Rel.start s
 have hsz1:=sz_ex1 (RS0 s)
 have hz3:(RS0 s).len≤8000:=by simpa [RS0,RS.len] using ad3 s
 obtain ⟨r,hr⟩:∃ r,exO s=r:=⟨_,rfl⟩
 obtain ⟨q,hq⟩:∃ q,RX .expr (RS0 s)=q:=⟨_,rfl⟩
 have HT:Hid (exT s=if r.1=0 then hdE q.1 else noE):=ke (by simp only [exT,hr,ag3,hq])
 have HR:Hid ((if q.2.fin.wc=0 then (if (hdE q.1).size≤3000∧abk (hdE q.1)≤40 then ((0:Int),(0:Int)) else (5,0)) else (q.2.fin.wc,q.2.fin.wa))=r):=ke (by rw [← hr];simp only [exO,ag3,hq])
 have HPC:Hid (∀ e w',(∃ y,e=.returned (.tuple #[.agg (aab y).toArray,.int .i64 r.1,.int .i64 r.2])∧ExK w.heap.size none w' (exT s) y∧Below w.heap.size w w')→akc w s e w'):=ke (by intro e w' h;unfold akc;rw [hr];exact h)
 rw [ag3,hq] at hsz1
 rw [hq] at hwq
 rw [hq] at hwsq
 rw [hq] at hszq
 rw [hq] at hdz
 have HS:Hid ((hdE q.1).size≤16001):=ke (by omega)
 rw [hr] at hwr
 obtain ⟨ec,hec1⟩:∃ x,aie s=x:=⟨_,rfl⟩
 rw [hec1] at hec
 obtain ⟨ea,hea⟩:∃ x,allA s=x:=⟨_,rfl⟩
 obtain ⟨ws,hws⟩:∃ x,afv s=x:=⟨_,rfl⟩
 rw [hec1,hea,hws] at HRD
 rw [hec1,hea] at hwr
 rw [hec1,hws] at hrs
 rw [hws] at hwl hfw
 have HWL:=ke hwl;have HFW:=ke hfw;have HWR:=ke hwr;have HRS:=ke hrs;have HQ:=ke hq
 clear hwl hfw hwr hrs hsz1 hz3 hr hq hec1 hea hws
 go_enter Tryz.func11,Tryz.ntmps11
 go_upto_region 2 with (go_at_call 18;refine HRD.out.mono ?_;rintro e w1 ⟨v,rfl,ho,hb⟩;have HO:=ke ho;obtain ⟨A,cap,rfl,hlc⟩:=abc ho;have HB1:=ke hb;have HLC:=ke hlc;clear ho hb hlc HRD)
 have HXR1:Hid (Bx w1 w.heap.size #[.int .i64 0,.int .i32 0,.string ⟨#[]⟩,.string ⟨#[]⟩,.string ⟨#[]⟩,.slice none 0 0,.string ⟨#[]⟩,.int .i64 0] 35):=ke (HXA.out.next HB1.out)
 have HWB1:Hid (Below w.heap.size w w1):=ke (HKA.out.trans (HB1.out.mono HKA.out.size))
 ·subst hec
  have h0b:((0:Int) != 0)=false:=by simp
  have hrs:=HRS.out rfl
  go_upto_region 5 with (fail)
  refine aak (F:=fun W=>Bx W w1.heap.size (qcs (⟨w1,w1.heap.size,ws,s.size,A,cap⟩:QC) QS0) 63∧Below w1.heap.size w1 W) ⟨Bx.new _ _ _,(Below.refl _ _).alloc (Nat.le_refl _) _⟩ ?_
  rintro w3 ⟨hx3,hb3⟩
  have hok:(⟨w1,w1.heap.size,ws,s.size,A,cap⟩:QC).ok:=ahc HO.out HWL.out HFW.out HLC.out (Nat.le_refl _) w1 (Below.refl _ _) _
  have hrq:Rq (⟨w1,w1.heap.size,ws,s.size,A,cap⟩:QC) (RS0 s) w3:=⟨QS0,⟨⟨hb3.os,hb3.tape,hb3.output,hb3.size,fun k hk _=>hb3.block k hk⟩,hok,Nat.zero_le _,hx3⟩,hrs⟩
  have HB3:=ke hb3
  have HQX:Hid (Calls Tryz.prog 35 #[.pointer (some ⟨w1.heap.size,0,none⟩)] w3 (ExQ (⟨w1,w1.heap.size,ws,s.size,A,cap⟩:QC) w3 q)):=ke (by have:=ag8 hrq;rw [HQ.out] at this;exact this)
  have hw13:w1.heap.size < w3.heap.size:=hx3.lt
  have hw01:w.heap.size < w1.heap.size:=HXR1.out.lt
  clear hrs hx3 hb3 hok hrq
  go_upto_region 6 with (go_at_call 35;refine HQX.out.mono ?_;clear HQX;rintro e w4 ⟨x,y,rfl,hk,hbare,hmv⟩;have HK:=ke hk;have HBR:=ke hbare;obtain ⟨k,n,tx,nm,ty,Ae,cape,l,rfl,hsz,_,_⟩:=hk;(try simp only [aab]);have HMV:=ke hmv;clear hmv hbare)
  refine aak (F:=fun W=>Bx W w4.heap.size #[.int .i64 k,.int .i32 n,.string tx,.string nm,.string ty,.slice Ae l.length cape,.string ⟨#[]⟩,.int .i64 0] 35∧Below w4.heap.size w4 W) ⟨Bx.new _ _ _,(Below.refl _ _).alloc (Nat.le_refl _) _⟩ ?_
  rintro w5 ⟨hx5,hb5⟩
  have HX5:=ke hx5;have HB5:=ke hb5
  have hw34:w3.heap.size≤w4.heap.size:=HMV.out.1.size
  have HRQ5:Hid (Rq (⟨w1,w1.heap.size,ws,s.size,A,cap⟩:QC) q.2 w5):=ke (HMV.out.2.below hb5)
  have HWB5:Hid (Below w.heap.size w w5):=by
   have k3:=HWB1.out.trans (HB3.out.mono HWB1.out.size)
   have k4:=abv k3 HMV.out.1 (show w.heap.size≤w1.heap.size by omega)
   exact ke (k4.trans (hb5.mono k4.size))
  have HXR5:Hid (Bx w5 w.heap.size #[.int .i64 0,.int .i32 0,.string ⟨#[]⟩,.string ⟨#[]⟩,.string ⟨#[]⟩,.slice none 0 0,.string ⟨#[]⟩,.int .i64 0] 35):=ke (((HXR1.out.next HB3.out).grown HMV.out.1 (show w.heap.size≠w1.heap.size by omega)).next hb5)
  have HK5:Hid (ExK w3.heap.size none w5 x (.ex k n tx nm ty (.slice Ae l.length cape) l ⟨#[]⟩ 0)):=ke (HK.out.below hb5)
  clear hx5 hb5
  obtain ⟨qs,hm5,hr5⟩:=HRQ5.out
  obtain ⟨c0,_,c2,c3,c4,_⟩:=hm5.cells
  have hfew:=hm5.few
  have hbad:=hr5.bad
  have hlq:=hm5.lt
  dsimp only at c0 c2 c3 c4 hfew hlq
  have hne1:¬ w1.heap.size=w.heap.size:=by omega
  have hne2:¬ w.heap.size=w1.heap.size:=by omega
  have hq0:=hwq
  have hbd:qs.bd=0:=hbad.trans hq0
  rw [hbd] at c3
  have hws:=(hr5.2.2.1 hq0).2.1
  have hkl:¬ qs.k < ws.length:=by
   intro hn
   rw [hws] at hwsq
   simp at hwsq
   omega
  have hkl':(ws.length:Int)≤(qs.k:Int):=by omega
  have hwz:q.2.ws=[]:=by rw [hws,List.drop_eq_nil_of_le (show ws.length≤qs.k by omega)];rfl
  have hfin:q.2.fin=q.2:=fin_nil hwz
  have hbare:=HK5.out.bare.trans (HBR.out hq0)
  obtain ⟨sz,hsz0⟩:∃ m,(Nd.ex k n tx nm ty (.slice Ae l.length cape) l ⟨#[]⟩ 0).size=m:=⟨_,rfl⟩
  obtain ⟨d,hd0⟩:∃ m,abk (Nd.ex k n tx nm ty (.slice Ae l.length cape) l ⟨#[]⟩ 0)=m:=⟨_,rfl⟩
  have hsq:(hdE q.1).size=sz:=by
   have:=ada (a:=[hdE q.1]) (b:=[Nd.ex k n tx nm ty (.slice Ae l.length cape) l ⟨#[]⟩ 0]) (by simp only [aai];rw [hbare])
   rw [ab1,ab1] at this;rw [this,hsz0]
  have hdq:abk (hdE q.1)=d:=by
   rw [← adg _ _ (Nat.le_refl _),← hbare,adg _ _ (Nat.le_refl _),hd0]
  have hsm:sz≤20000:=by have:=HS.out;omega
  have hdm:d≤20000:=by have:=ael _ _ (Nat.le_refl (Nd.ex k n tx nm ty (.slice Ae l.length cape) l ⟨#[]⟩ 0).size);omega
  have hsl:aal l≤20000:=by
   have:(Nd.ex k n tx nm ty (.slice Ae l.length cape) l ⟨#[]⟩ 0).size=1+aal l:=by simp [Nd.size]
   omega
  have HSZ:Hid (∀ w',Below w5.heap.size w5 w'→Calls Tryz.prog 37 #[.agg #[.int .i64 k,.int .i32 n,.string tx,.string nm,.string ty,.slice Ae l.length cape,.string ⟨#[]⟩,.int .i64 0]] w' fun e w''=>e=.returned (.int .i64 sz)∧Below w'.heap.size w' w'') :=
   ke fun w' hb=>by have:=agq 20000 (by decide) (agp 20000 (by decide)) w' k n tx nm ty _ l _ _ (HK5.out.below hb).now hsl;rw [hsz0] at this;exact this
  have HDP:Hid (∀ w',Below w5.heap.size w5 w'→Calls Tryz.prog 38 #[.agg #[.int .i64 k,.int .i32 n,.string tx,.string nm,.string ty,.slice Ae l.length cape,.string ⟨#[]⟩,.int .i64 0]] w' fun e w''=>e=.returned (.int .i64 d)∧Below w'.heap.size w' w'') :=
   ke fun w' hb=>by have:=qdeep_row 20000 (by decide) w' k n tx nm ty _ l _ _ (HK5.out.below hb).now (by omega);rw [hd0] at this;exact this
  have hrr:=HR.out
  rw [hfin,hq0,if_pos rfl,hsq,hdq] at hrr
  have hex:aaq (.ex k n tx nm ty (.slice Ae l.length cape) l ⟨#[]⟩ 0)=aaq (hdE q.1):=hbare
  have HEX:=ke hex
  have h0b:((0:Int) != 0)=false:=by simp
  have HSQ:=ke hsq;have HDQ:=ke hdq;clear hsq hdq hsz0 hd0 hbare hfin hwz hws hbad hr5 hm5 hfew hlq hbd hex hsl
  have h1:¬ (3000:Int) < sz:=by have:=hszq;rw [HSQ.out] at this;omega
  have h2:¬ (40:Int) < d:=by have:=hdz;rw [HDQ.out] at this;omega
  have hr0:r=(0,0):=by rw [if_pos (by omega)] at hrr;exact hrr.symm
  subst hr0
  clear hrr
  go_quiet (fail)
  go_upto_region 10 with (fail)
  refine aak (F:=fun W=>Below w5.heap.size w5 W) (below_drewN (Below.refl _ _) _) ?_
  rintro w6 hb6
  have HX6:=ke (HX5.out.next hb6)
  have HXR6:=ke (HXR5.out.next hb6)
  have HWB6:=ke (HWB5.out.trans (hb6.mono HWB5.out.size))
  have HK6:=ke (HK5.out.below hb6)
  have HB6:=ke hb6
  have hls:=hb6.size
  obtain ⟨p0,p1,p2,p3,p4,p5,p6,p7⟩:=HX6.out.all_8
  have hl5:=HX6.out.lt
  clear hb6 c0 c2 c3 c4
  go_wp2_with (first|(go_at_call 37;refine (HSZ.out _ HB6.out).mono ?_;rintro e w7 ⟨rfl,hb⟩;obtain ⟨r0,r1,r2,r3,r4,r5,r6,r7⟩:=(HXR6.out.next hb).all_8;have g0:=(HXR6.out.next hb).fro 0;have g1:=(HXR6.out.next hb).fro 1;have g2:=(HXR6.out.next hb).fro 2;have g3:=(HXR6.out.next hb).fro 3;have g4:=(HXR6.out.next hb).fro 4;have g5:=(HXR6.out.next hb).fro 5;have g6:=(HXR6.out.next hb).fro 6;have g7:=(HXR6.out.next hb).fro 7;obtain ⟨p0,p1,p2,p3,p4,p5,p6,p7⟩:=(HX6.out.next hb).all_8;have hl4:=(HXR6.out.next hb).lt;have hl5:=(HX6.out.next hb).lt;have HB7:=ke hb;have HB67:=ke (HB6.out.trans (hb.mono HB6.out.size));clear hb)|(go_at_call 38;refine (HDP.out _ HB67.out).mono ?_;rintro e w8 ⟨rfl,hb8⟩;have hb:=HB7.out.trans (hb8.mono HB7.out.size);obtain ⟨r0,r1,r2,r3,r4,r5,r6,r7⟩:=(HXR6.out.next hb).all_8;have g0:=(HXR6.out.next hb).fro 0;have g1:=(HXR6.out.next hb).fro 1;have g2:=(HXR6.out.next hb).fro 2;have g3:=(HXR6.out.next hb).fro 3;have g4:=(HXR6.out.next hb).fro 4;have g5:=(HXR6.out.next hb).fro 5;have g6:=(HXR6.out.next hb).fro 6;have g7:=(HXR6.out.next hb).fro 7;obtain ⟨p0,p1,p2,p3,p4,p5,p6,p7⟩:=(HX6.out.next hb).all_8;have hl4:=(HXR6.out.next hb).lt;have hl5:=(HX6.out.next hb).lt;have HB8:=ke hb;clear hb hb8))
  (try simp only [Exit.inBlock,Exit.then])
  obtain ⟨z0,z1,z2,z3,z4,z5,z6,z7⟩:=((HXR6.out.next HB8.out).to_8 (.int .i64 k) (.int .i32 n) (.string tx) (.string nm) (.string ty) (.slice Ae l.length cape) (.string ⟨#[]⟩) (.int .i64 0)).all_8
  refine bodyPost_ret (v:=.tuple #[.agg #[.int .i64 k,.int .i32 n,.string tx,.string nm,.string ty,.slice Ae l.length cape,.string ⟨#[]⟩,.int .i64 0],.int .i64 0,.int .i64 0]) (by simp [results,Tryz.results11,go_sem,z0,z1,z2,z3,z4,z5,z6,z7]) rfl (HPC.out _ _ ⟨.ex k n tx nm ty (.slice Ae l.length cape) l ⟨#[]⟩ 0,rfl,?_,?_⟩)
  ·rw [HT.out]
   show ExK w.heap.size none _ (hdE q.1) _
   have hk8:=((HK6.out.below HB8.out).grown (aaw w8 w.heap.size (.int .i64 k) (.int .i32 n) (.string tx) (.string nm) (.string ty) (.slice Ae l.length cape) (.string ⟨#[]⟩) (.int .i64 0)) (.inl (show w.heap.size < w3.heap.size by omega))).mono (Nat.le_of_lt (show w.heap.size < w3.heap.size by omega))
   obtain ⟨a1,a2,a3,a4,a5,a6,a7,a8,a9,a10,a11,a12⟩:=hk8
   exact ⟨a1,a2,a3,a4,a5,a6,a7,a8,a9,a10,a11,HEX.out⟩
  ·with_reducible exact acd (HWB6.out.trans (HB8.out.mono HWB6.out.size)) (Nat.le_refl _) _ _ _ _ _ _ _ _
end
section
open Go.RowKit
theorem qexpr_none (w:World) (s:ByteArray) (hs:s.size≤maxLen) (hec:aie s≠0):Calls Tryz.prog 11 #[.string s] w (akc w s):=by
 obtain ⟨Wa,ha⟩:∃ W,w.alloc (.cells #[.int .i64 0,.int .i32 0,.string ⟨#[]⟩,.string ⟨#[]⟩,.string ⟨#[]⟩,.slice none 0 0,.string ⟨#[]⟩,.int .i64 0] 35)=W:=⟨_,rfl⟩
 have ka:Below w.heap.size w Wa:=by rw [← ha];exact (Below.refl _ _).alloc (Nat.le_refl _) _
 have xa:Bx Wa w.heap.size #[.int .i64 0,.int .i32 0,.string ⟨#[]⟩,.string ⟨#[]⟩,.string ⟨#[]⟩,.slice none 0 0,.string ⟨#[]⟩,.int .i64 0] 35:=by rw [← ha];exact Bx.new _ _ _
 have sa:Wa.heap.size=w.heap.size+1:=by rw [← ha];simp
 have HKA:=ke ka
 have HXA:=ke xa
 have HSA:=ke sa
 have HRD:=ke (ahz s Wa hs)
 clear ka xa sa
 subst ha
 unfold afw at HRD
 have hwl:=ah8 s
 have hfw:=ad3 s
 have hwr:=@agk s
 have hrs:=Rel.start s
 have hsz1:=sz_ex1 (RS0 s)
 have hz3:(RS0 s).len≤8000:=by simpa [RS0,RS.len] using ad3 s
 obtain ⟨r,hr⟩:∃ r,exO s=r:=⟨_,rfl⟩
 obtain ⟨q,hq⟩:∃ q,RX .expr (RS0 s)=q:=⟨_,rfl⟩
 have HT:Hid (exT s=if r.1=0 then hdE q.1 else noE):=ke (by simp only [exT,hr,ag3,hq])
 have HR:Hid ((if q.2.fin.wc=0 then (if (hdE q.1).size≤3000∧abk (hdE q.1)≤40 then ((0:Int),(0:Int)) else (5,0)) else (q.2.fin.wc,q.2.fin.wa))=r):=ke (by rw [← hr];simp only [exO,ag3,hq])
 have HPC:Hid (∀ e w',(∃ y,e=.returned (.tuple #[.agg (aab y).toArray,.int .i64 r.1,.int .i64 r.2])∧ExK w.heap.size none w' (exT s) y∧Below w.heap.size w w')→akc w s e w'):=ke (by intro e w' h;unfold akc;rw [hr];exact h)
 rw [ag3,hq] at hsz1
 have HS:Hid ((hdE q.1).size≤16001):=ke (by omega)
 rw [hr] at hwr
 obtain ⟨ec,hec1⟩:∃ x,aie s=x:=⟨_,rfl⟩
 rw [hec1] at hec
 obtain ⟨ea,hea⟩:∃ x,allA s=x:=⟨_,rfl⟩
 obtain ⟨ws,hws⟩:∃ x,afv s=x:=⟨_,rfl⟩
 rw [hec1,hea,hws] at HRD
 rw [hec1,hea] at hwr
 rw [hec1,hws] at hrs
 rw [hws] at hwl hfw
 have HWL:=ke hwl;have HFW:=ke hfw;have HWR:=ke hwr;have HRS:=ke hrs;have HQ:=ke hq
 clear hwl hfw hwr hrs hsz1 hz3 hr hq hec1 hea hws
 go_enter Tryz.func11,Tryz.ntmps11
 go_upto_region 2 with (go_at_call 18;refine HRD.out.mono ?_;rintro e w1 ⟨v,rfl,ho,hb⟩;have HO:=ke ho;obtain ⟨A,cap,rfl,hlc⟩:=abc ho;have HB1:=ke hb;have HLC:=ke hlc;clear ho hb hlc HRD)
 have HXR1:Hid (Bx w1 w.heap.size #[.int .i64 0,.int .i32 0,.string ⟨#[]⟩,.string ⟨#[]⟩,.string ⟨#[]⟩,.slice none 0 0,.string ⟨#[]⟩,.int .i64 0] 35):=ke (HXA.out.next HB1.out)
 have HWB1:Hid (Below w.heap.size w w1):=ke (HKA.out.trans (HB1.out.mono HKA.out.size))
 have h0:=hec
 have hxb:(ec != 0)=true:=by simpa using h0
 have hr0:r=(ec,ea):=HWR.out h0
 subst hr0
 obtain ⟨r0,r1,r2,r3,r4,r5,r6,r7⟩:=HXR1.out.all_8
 have g0:=HXR1.out.fro 0;have g1:=HXR1.out.fro 1;have g2:=HXR1.out.fro 2;have g3:=HXR1.out.fro 3;have g4:=HXR1.out.fro 4;have g5:=HXR1.out.fro 5;have g6:=HXR1.out.fro 6;have g7:=HXR1.out.fro 7
 have hl4:=HXR1.out.lt
 go_wp2_with fail
 (try simp only [Exit.inBlock,Exit.then])
 obtain ⟨z0,z1,z2,z3,z4,z5,z6,z7⟩:=(HXR1.out.to_8 (.int .i64 0) (.int .i32 0) (.string ⟨#[]⟩) (.string ⟨#[]⟩) (.string ⟨#[]⟩) (.slice none 0 0) (.string ⟨#[]⟩) (.int .i64 0)).all_8
 refine bodyPost_ret (v:=.tuple #[.agg #[.int .i64 0,.int .i32 0,.string ⟨#[]⟩,.string ⟨#[]⟩,.string ⟨#[]⟩,.slice none 0 0,.string ⟨#[]⟩,.int .i64 0],.int .i64 ec,.int .i64 ea]) (by simp [results,Tryz.results11,go_sem,z0,z1,z2,z3,z4,z5,z6,z7]) rfl (HPC.out _ _ ⟨noE,rfl,?_,?_⟩)
 ·rw [HT.out,if_neg h0];exact ExK.noE _ _ _
 ·exact acd HWB1.out (Nat.le_refl _) _ _ _ _ _ _ _ _
end
end Go.Proofs.YtddnnohfbagbnaaGreatDoor
