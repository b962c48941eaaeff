/- Parts of the proof: Rds, Pge, Qea. -/
import Derived.Test.YtddnnohfbagbnaaGreatDoorHi
import Derived.Test.YtddnnohfbagbnaaGreatDoorP7
import Derived.Deep.Cut
import Derived.Test.YtddnnohfbagbnaaGreatDoorP3
import Derived.Test.YtddnnohfbagbnaaGreatDoorP2
import Derived.Test.YtddnnohfbagbnaaGreatDoorP6
import Derived.Test.YtddnnohfbagbnaaGreatDoorP16
import Derived.Test.YtddnnohfbagbnaaGreatDoorP15
set_option maxHeartbeats 8000000
set_option maxRecDepth 100000
namespace Go.Proofs.YtddnnohfbagbnaaGreatDoor
set_option linter.unusedSimpArgs false
set_option linter.unusedVariables false
section
open Go.RowKit
theorem own_cap {w:World} {B sz n cap:Nat} {e:TypeId} {A:Option Addr} {xs:List Value} (h:w.ownsRow B e sz (.slice A n cap) n xs):cap≤maxLen:=by
 rcases h.2 with ⟨hv,_⟩|⟨g,c2,cur,hv,_,_,_,hc,_⟩
 ·injection hv with _ _ h3;omega
 ·injection hv with _ _ h3;omega
theorem ad3 (s:ByteArray):(afv s).length≤8000:=by
 by_cases h:8000 < s.size∨0≤acn s
 ·unfold afv;rw [if_pos h];simp
 ·have:=all_len s;omega
theorem MkAt.done {w wr:World} {b0:Nat} {s:ByteArray} {vw:Value} {A:Option Addr} {cap:Nat} (h:MkAt w b0 s.size (aie s) (allA s) (afv s) vw (afv s).length wr A cap):Rd wr b0 (RS0 s) wr:=by
 have ht:((afv s).map afr).take (afv s).length=(afv s).map afr:=by rw [List.take_of_length_le];simp
 obtain ⟨hb,hx,ho,_,_,_⟩:=h
 rw [ht] at hx ho
 have hcap:=own_cap ho
 refine ⟨⟨rfl,rfl,rfl,Nat.le_refl _,fun _ _ _=>rfl⟩,⟨A,_,cap,_,_,_,_,_,_,hx⟩,_,ww_own ho ?_ ?_ ⟨A,_,cap,rfl,hcap⟩,hx⟩
 ·show ((afv s).map afr).length≤1000000
  rw [List.length_map]
  unfold afv
  split
  ·simp
  ·rename_i hh
   have:=all_len s
   unfold afv at this
   rw [if_neg hh] at this
   omega
 ·intro x hx
  replace hx:x ∈ (afv s).map afr:=hx
  rw [List.mem_map] at hx
  obtain ⟨y,hy,rfl⟩:=hx
  have:=all_texts s y hy
  show (afo y.k ⟨y.t.toArray⟩).text.size≤_
  rw [part_text]
  simp [ByteArray.size];omega
theorem aj7 (w:World) (s:ByteArray) (hs:s.size≤maxLen):Calls Tryz.prog 13 #[.string s] w fun e w'=>∃ c,e=.returned (.pointer (some ⟨c,0,none⟩))∧Rd w' c (RS0 s) w'∧w.heap.size≤c∧Below w.heap.size w w':=by
 have HA:=ke (all_any s w hs)
 have hds:∀ {wr b0 vw A cap},MkAt w b0 s.size (aie s) (allA s) (afv s) vw (afv s).length wr A cap→Rd wr b0 (RS0 s) wr:=fun h=>h.done
 have htx:=all_texts s
 have hal:=ad3 s
 obtain ⟨ws,hws⟩:∃ ws,afv s=ws:=⟨_,rfl⟩
 obtain ⟨ec,hec⟩:∃ ec,aie s=ec:=⟨_,rfl⟩
 obtain ⟨ea,hea⟩:∃ ea,allA s=ea:=⟨_,rfl⟩
 unfold AllSaid at HA
 rw [hws,hec,hea] at hds HA
 rw [hws] at htx hal
 obtain ⟨R0,hR0⟩:∃ R0,RS0 s=R0:=⟨_,rfl⟩
 rw [hR0] at hds ⊢
 have HDS:Hid (∀ wr b0 vw A cap,MkAt w b0 s.size ec ea ws vw ws.length wr A cap→Rd wr b0 R0 wr):=by
  show ∀ wr b0 vw A cap,_
  intro wr b0 vw A cap h;exact hds h
 obtain ⟨sz,hsz⟩:∃ sz:Nat,s.size=sz:=⟨_,rfl⟩
 rw [hsz] at HDS hs
 have HTX:=ke htx
 have hsI:(s.size:Int)=(sz:Int):=by rw [hsz]
 obtain ⟨i0,hi,hz0,hzz1,hzz2⟩:=info_parts Tryz.infoPl
 clear hds hws hec hea hR0 htx hsz
 go_enter Tryz.func13,Tryz.ntmps13
 go_wp2_with fail
 refine HA.out.mono ?_
 clear HA
 rintro e w1 ⟨v,rfl,ho,hb⟩
 obtain ⟨Aw,capw,rfl,_⟩:=abc ho
 have HB1:=ke hb
 have hb2:Below w1.heap.size w1 (w1.alloc (.cells #[.slice none 0 0,.int .i64 (sz:Int),.int .i64 0,.int .i64 ec,.int .i64 ea,.int .i64 0,.int .i64 0] 56)):=(Below.refl _ _).alloc (Nat.le_refl _) _
 have HK:Hid (MkAt w w1.heap.size (sz:Int) ec ea ws (.slice Aw ws.length capw) 0 (w1.alloc (.cells #[.slice none 0 0,.int .i64 (sz:Int),.int .i64 0,.int .i64 ec,.int .i64 ea,.int .i64 0,.int .i64 0] 56)) none 0) :=
  ke ⟨hb.trans (hb2.mono hb.size),Bx.new _ _ _,World.ownsRow_nil _ _ _ _,abr ho hb2,fun g hg=>(ho.lt g hg).2,hb.size⟩
 have hcw:=own_cap ho
 have hsw:w.heap.size≤w1.heap.size:=hb.size
 obtain ⟨n,hn⟩:∃ n,ws.length=n:=⟨_,rfl⟩
 rw [hn] at HK HDS hal ho ⊢
 have HN:=ke hn
 have hnm:n≤8000:=hal
 clear ho hb hb2 hn
 go_wp2_with fail
 go_loopw [24] (fun v24 wr=>∃ (k:Nat) (A:Option Addr) (cap:Nat),v24=.int .i64 k∧k≤n∧MkAt w w1.heap.size (sz:Int) ec ea ws (.slice Aw n capw) k wr A cap) (fun v24 wr=>n - (intOf v24).toNat)
 case atStart=>exact ⟨0,none,0,rfl,Nat.zero_le _,HK.out⟩
 case round =>
  obtain ⟨k,A,cap,rfl,hkn,hmk⟩:=hrel
  have HMK:=ke hmk
  by_cases hlt:k < n
  ·have hltI:(k:Int) < (n:Int):=by omega
   obtain ⟨x,hx⟩:∃ x,ws[k]?=some x:=⟨_,List.getElem?_eq_getElem (by rw [HN.out];exact hlt)⟩
   have hrow:=hmk.row
   rw [HN.out] at hrow
   obtain ⟨gw,cw,hv,hgw,hgl,hat⟩:=ags hrow (by omega)
   injection hv with hv1 hv2 hv3
   subst hv1 hv3
   clear hv2
   have c0:=(hat (k * 3+0) (.int .i64 x.k) (by rw [afc ws k 0 x hx (by omega)];rfl)).1
   have c1:=(hat (k * 3+1) (.string ⟨x.t.toArray⟩) (by rw [afc ws k 1 x hx (by omega)];rfl)).1
   have c2:=(hat (k * 3+2) (.int .i64 x.a) (by rw [afc ws k 2 x hx (by omega)];rfl)).1
   rw [Nat.add_zero] at c0
   have htz:(⟨x.t.toArray⟩:ByteArray).size≤1000000:=by
    have:=HTX.out x (List.mem_of_getElem? hx)
    simp [ByteArray.size];omega
   have HX:=ke hx
   obtain ⟨tx,htx⟩:∃ tx:ByteArray,(⟨x.t.toArray⟩:ByteArray)=tx:=⟨_,rfl⟩
   obtain ⟨xk,hxk⟩:∃ xk:Nat,x.k=xk:=⟨_,rfl⟩
   obtain ⟨xa,hxa⟩:∃ xa:Int,(x.a:Int)=xa:=⟨_,rfl⟩
   have HPL:Hid (afr x=(afo xk tx,xa)):=ke (by rw [afr,htx,hxk,hxa])
   rw [htx] at c1 htz
   rw [hxk] at c0
   rw [hxa] at c2
   have HP:Hid (∀ w',Calls Tryz.prog 41 #[.agg #[.int .i64 xk,.string tx,.int .i64 xa]] w' fun e w''=>e=.returned (afo xk tx).V∧Below w'.heap.size w' w''):=by
    show ∀ w',_
    intro w';exact part_any w' xk tx xa htz
   obtain ⟨uT,uv,hu⟩:∃ uT uv,(afo xk tx).V=.iface uT uv:=by cases afo xk tx<;>exact ⟨_,_,rfl⟩
   rw [hu] at HP
   have HU:=ke hu
   have hb2:Below wr.heap.size wr (wr.alloc (.cells #[.int .i64 xk,.string tx,.int .i64 xa] 83)):=(Below.refl _ _).alloc (Nat.le_refl _) _
   have FACTS:MkAt w w1.heap.size (sz:Int) ec ea ws (.slice (some ⟨gw,0,none⟩) n capw) k (wr.alloc (.cells #[.int .i64 xk,.string tx,.int .i64 xa] 83)) A cap∧Bx (wr.alloc (.cells #[.int .i64 xk,.string tx,.int .i64 xa] 83)) wr.heap.size #[.int .i64 xk,.string tx,.int .i64 xa] 83:=⟨hmk.below hb2,Bx.new _ _ _⟩
   clear hat hrow hmk hx htx hxk hxa hu hb2 hgl hgw HTX
   go_upto_region 6 with (fail)
   refine aak (fun W=>MkAt w w1.heap.size (sz:Int) ec ea ws (.slice (some ⟨gw,0,none⟩) n capw) k W A cap∧Bx W wr.heap.size #[.int .i64 xk,.string tx,.int .i64 xa] 83) FACTS ?_
   clear FACTS
   rintro W ⟨hm,hw⟩
   have HMW:=ke hm
   have HMD:=ke (hm.below (Below.refl _ W).drew)
   have r0:=hm.bx.cell 0
   have y0:=hw.cell 0;have y1:=hw.cell 1;have y2:=hw.cell 2
   have HWD:=ke (hw.next (Below.refl _ W).drew)
   simp only [List.getElem?_toArray,List.getElem?_cons_succ,List.getElem?_cons_zero] at r0 y0 y1 y2
   have hkl:((ws.map afr).take k).length=k:=by simp [HN.out];omega
   have HKL:=ke hkl
   rw [hkl] at r0
   clear hm hw c0 c1 c2 hkl
   go_region_law (first
    | (refine step_append_lies _ rfl (.tmp 32) (.tmp 38) 54 rfl (w1.heap.size+1) 87 i0 _ 2 24 Tryz.underlying54 hi hz0 hzz1 hzz2 rfl (by decide) _ _ _ rfl HO6.out ⟨w5.heap.size,0,none⟩ 1 1 [.iface uT uv,.int .i64 xa] rfl (by simp) (new_at w5 [.iface uT uv,.int .i64 xa] 87) HON.out (by decide) (by unfold maxLen;first|omega|(simp;omega)) (by first|omega|(simp;omega)) HC6.out _ rfl ?_;intro g c3 w7 ho7 hg7 hat7 hlt7;have HX7:=ke (HP7.out w7 g c3 ho7 hg7);have d0:=HX7.out.1;have g0:=HX7.out.2.1;have HPUT:=ke HX7.out.2.2;clear ho7 hg7 hat7 hlt7)
    | (go_simp;go_wp2_with (go_at_call 41;refine (HP.out _).mono ?_;rintro e w5 ⟨rfl,hb⟩;have HM5:=ke (HMD.out.below hb);have hb6:Below w5.heap.size w5 (w5.alloc (.cells #[.iface uT uv,.int .i64 xa] 87)):=(Below.refl _ _).alloc (Nat.le_refl _) _;have HM6:=ke (HM5.out.below hb6);have HO6:=ke HM6.out.own;rw [HKL.out] at HO6;have HON:Hid (∀ v ∈ [Value.iface uT uv,Value.int .i64 xa],v.oneCell'=true):=ke (by have:=pl_one [(afo xk tx,xa)];rw [← HU.out];simpa [ac4] using this);have HC6:=ke (show w1.heap.size+1≤(w5.alloc (.cells #[.iface uT uv,.int .i64 xa] 87)).heap.size from Nat.lt_of_lt_of_le HM5.out.bx.lt hb6.size);have b0:=HM5.out.bx.cell 0;have b1:=HM6.out.bx.cell 0;have bw:=HWD.out.next hb;have y20:=bw.cell 2;simp only [List.getElem?_toArray,List.getElem?_cons_succ,List.getElem?_cons_zero] at b0 b1 y20;rw [HKL.out] at b0 b1;have HP7:Hid (∀ (w7:World) (g c3:Nat),w7.ownsRow (w1.heap.size+1) 87 2 (.slice (some ⟨g,0,none⟩) (k+1) c3) (k+1) (((ws.map afr).take k).flatMap ac4 ++ [.iface uT uv,.int .i64 xa])→(w5.alloc (.cells #[.iface uT uv,.int .i64 xa] 87)).grownBy w7 (Value.slice A k cap).ownBlock→w7.cell? ⟨w1.heap.size,0,none⟩=some (.slice A k cap)∧w7.frozen? ⟨w1.heap.size,0,none⟩=false∧MkAt w w1.heap.size (sz:Int) ec ea ws (.slice (some ⟨gw,0,none⟩) n capw) (k+1) (w7.setCell ⟨w1.heap.size,0,none⟩ (.slice (some ⟨g,0,none⟩) (k+1) c3)) (some ⟨g,0,none⟩) c3):=ke (by { intro w7 g c3 ho7 hg7;rw [← HKL.out] at hg7;have hbx:Bx w7 w1.heap.size _ _:=(hg7.block _ HM6.out.bx.lt (fun q=>by have:=(HM6.out.own.lt _ q.symm).1;omega)).trans HM6.out.bx;have hc:=hbx.cell 0;simp only [List.getElem?_toArray,List.getElem?_cons_zero] at hc;rw [HKL.out] at hc;exact ⟨hc,hbx.fro 0,HM6.out.put HX.out (by rw [HPL.out,ac4,HU.out];exact ho7) hg7 (by rw [List.take_add_one,List.length_append,HKL.out];simp [HX.out])⟩ });clear hb hb6 bw)))
   all_goals
    go_wp2_with fail
    go_roundw
    case rel=>exact ⟨k+1,_,_,by go_num,by omega,HPUT.out⟩
    case measure=>simp [intOf];omega
  ·have hkn':k=n:=by omega
   have hleI:(n:Int)≤(k:Int):=by omega
   have HM2:Hid (MkAt w w1.heap.size (sz:Int) ec ea ws (.slice Aw n capw) n wr A cap):=ke (by rw [hkn'] at hmk;exact hmk)
   clear hmk HMK hkn' hlt
   go_wp2_with fail
   go_ret
   exact ⟨_,rfl,HDS.out _ _ _ _ _ HM2.out,hsw,HM2.out.bel⟩
end
section
open Go.RowKit
theorem sz_ex1 (s:RS):(hdE (ex s).1).size+2 * (ex s).2.len≤2 * s.len+1:=hd_le (run_size _ _ _) (abm _ _ _) (Nat.le_refl _)
theorem adg:∀ (n:Nat) (x:Nd),x.size≤n→abk (aaq x)=abk x
 | 0,x,h=>by have:=ac8 x;omega
 | n+1,x,h=>by
  have hl:∀ l:List Nd,aal l≤n→acm (aai l)=acm l:=by
   intro l
   induction l with
   | nil=>intro _;simp [aai]
   | cons y l ih =>
    intro hh
    simp only [aal] at hh
    simp only [aai,acm]
    rw [adg n y (by omega),ih (by omega)]
  cases x with
  | ex k n' tx nm ty v l own nth =>
   simp only [Nd.size] at h
   simp only [aaq,abk]
   rw [hl l (by omega)]
  | _=>rfl
def exO (s:ByteArray):Int×Int :=
 let r:=(ex (RS0 s)).2.fin
 if r.wc=0 then (if (hdE (ex (RS0 s)).1).size≤3000∧abk (hdE (ex (RS0 s)).1)≤40 then (0,0) else (5,0)) else (r.wc,r.wa)
def exT (s:ByteArray):Nd:=if (exO s).1=0 then hdE (ex (RS0 s)).1 else noE
def akc (w:World) (s:ByteArray) (e:Ending) (w':World):Prop :=
 ∃ y,e=.returned (.tuple #[.agg (aab y).toArray,.int .i64 (exO s).1,.int .i64 (exO s).2])∧ExK w.heap.size none w' (exT s) y∧Below w.heap.size w w'
theorem acd {B b:Nat} {W w:World} (h:Below B W w) (hb:B≤b) (u0 u1 u2 u3 u4 u5 u6 u7:Value):Below B W ((((((((w.setCell ⟨b,0,none⟩ u0).setCell ⟨b,1,none⟩ u1).setCell ⟨b,2,none⟩ u2).setCell ⟨b,3,none⟩ u3).setCell ⟨b,4,none⟩ u4).setCell ⟨b,5,none⟩ u5).setCell ⟨b,6,none⟩ u6).setCell ⟨b,7,none⟩ u7):=(((((((h.setCell hb _).setCell hb _).setCell hb _).setCell hb _).setCell hb _).setCell hb _).setCell hb _).setCell hb _
theorem ExK.noE (B:Nat) (r:Option Nat) (w:World):ExK B r w noE noE:=by
 refine ⟨0,0,⟨#[]⟩,⟨#[]⟩,⟨#[]⟩,none,0,[],rfl,?_,fun ws _=>(FkL.nil B ws .ex).now,rfl⟩
 unfold maxLen;exact ⟨by decide,by decide,by decide⟩
theorem ExK.now {B:Nat} {r:Option Nat} {w:World} {x y:Nd} (h:ExK B r w x y):Kd w y:=by
 obtain ⟨k,n,tx,nm,ty,A,cap,l,rfl,hs,hf,hb⟩:=h
 rw [Kd];exact ⟨hs,hf w fun _ _ _ _ _ h=>h⟩
theorem ai6 (w:World) (s:ByteArray) (hv:Vars w) (hs:s.size≤maxLen):Calls Tryz.prog 10 #[.string s] w (akc w s):=by
 obtain ⟨Wa,ha⟩:∃ W,w.alloc (.cells #[.int .i64 0,.int .i32 0,.string ⟨#[]⟩,.string ⟨#[]⟩,.string ⟨#[]⟩,.slice none 0 0,.string ⟨#[]⟩,.int .i64 0] 35)=W:=⟨_,rfl⟩
 have ka:Below w.heap.size w Wa:=by rw [← ha];exact (Below.refl _ _).alloc (Nat.le_refl _) _
 have xa:Bx Wa w.heap.size #[.int .i64 0,.int .i32 0,.string ⟨#[]⟩,.string ⟨#[]⟩,.string ⟨#[]⟩,.slice none 0 0,.string ⟨#[]⟩,.int .i64 0] 35:=by rw [← ha];exact Bx.new _ _ _
 have sa:Wa.heap.size=w.heap.size+1:=by rw [← ha];simp
 have HKA:=ke ka
 have HXA:=ke xa
 have HRD:=ke (aj7 Wa s hs)
 clear ka xa
 subst ha
 go_enter Tryz.func10,Tryz.ntmps10
 go_upto_region 2 with (go_at_call 13;refine HRD.out.mono ?_;rintro e w1 ⟨c,rfl,hrd,hc,hb⟩;have HRX:=ke hrd;have HCX:=ke hc;have HB1:=ke hb;clear hrd hc hb)
 have HV1:Hid (Vars w1):=ke (hv.keep (Keep.below (HKA.out.trans (HB1.out.mono HKA.out.size))))
 have HPG:=ke (ex_any w1 w1 c (RS0 s) HV1.out HRX.out)
 have HS:=ke (sz_ex1 (RS0 s))
 have HZ:=ke (ad3 s)
 obtain ⟨q,hq⟩:∃ q,ex (RS0 s)=q:=⟨_,rfl⟩
 obtain ⟨r,hr⟩:∃ r,exO s=r:=⟨_,rfl⟩
 have HT:Hid (exT s=if r.1=0 then hdE q.1 else noE):=ke (by simp only [exT,hr,hq])
 have HR:Hid ((if q.2.fin.wc=0 then (if (hdE q.1).size≤3000∧abk (hdE q.1)≤40 then ((0:Int),(0:Int)) else (5,0)) else (q.2.fin.wc,q.2.fin.wa))=r):=ke (by rw [← hr];simp only [exO,hq])
 rw [hq] at HPG HS
 have HPC:Hid (∀ e w',(∃ y,e=.returned (.tuple #[.agg (aab y).toArray,.int .i64 r.1,.int .i64 r.2])∧ExK w.heap.size none w' (exT s) y∧Below w.heap.size w w')→akc w s e w'):=ke (by intro e w' h;unfold akc;rw [hr];exact h)
 clear hr hq hv
 go_upto_region 3 with (go_at_call 31;refine HPG.out.mono ?_;rintro e w2 ⟨y,rfl,hk,hmv⟩;have HK:=ke hk;obtain ⟨k,n,tx,nm,ty,A,cap,l,rfl,hsz,_,_⟩:=hk;(try simp only [aab]);have HMV:=ke hmv;clear hmv)
 have HE8:=ke (Bx.new w2 #[.int .i64 k,.int .i32 n,.string tx,.string nm,.string ty,.slice A l.length cap,.string ⟨#[]⟩,.int .i64 0] 35)
 have hB3:=(Below.refl w2.heap.size w2).alloc (Nat.le_refl _) (.cells #[.int .i64 k,.int .i32 n,.string tx,.string nm,.string ty,.slice A l.length cap,.string ⟨#[]⟩,.int .i64 0] 35)
 have hcb:w.heap.size < c:=by have:=HCX.out;simp at this;omega
 have hc1:=HRX.out.lt
 have hc2:c < w2.heap.size:=Nat.lt_of_lt_of_le hc1 HMV.out.1.size
 have hw1:w.heap.size < w1.heap.size:=by omega
 have HXR2:Hid (Bx w2 w.heap.size _ 35):=ke ((HXA.out.next HB1.out).grown HMV.out.1 (by omega))
 have HWB2:Hid (Below w.heap.size w w2):=by
  have k1:=HKA.out.trans (HB1.out.mono HKA.out.size)
  exact ke (abv k1 HMV.out.1 (by omega))
 refine aak (F:=fun W=>Bx W w2.heap.size _ _∧Below w2.heap.size w2 W) ⟨HE8.out,hB3⟩ ?_
 clear hB3
 rintro w3 ⟨hx3,hb3⟩
 have HX3:=ke hx3
 have HB3:=ke hb3
 have HND:=ke (end_any w1 w3 c q.2 (Mv.below hb3 HMV.out.2).2)
 clear hx3 hb3 HE8
 obtain ⟨f,hf⟩:∃ f,q.2.fin=f:=⟨_,rfl⟩
 rw [hf] at HND HR
 clear hf
 go_upto_region 4 with (go_at_call 32;refine HND.out.mono ?_;rintro e w4 ⟨rfl,hm4⟩;have HM4:=ke hm4;clear hm4)
 have HX4:Hid (Bx w4 w2.heap.size _ 35):=ke (HX3.out.grown HM4.out.1 (by omega))
 have HXR:Hid (Bx w4 w.heap.size _ 35):=ke ((HXR2.out.next HB3.out).grown HM4.out.1 (by omega))
 have HWB:Hid (Below w.heap.size w w4):=by
  have k3:=HWB2.out.trans (HB3.out.mono HWB2.out.size)
  exact ke (abv k3 HM4.out.1 (by omega))
 have HK4:Hid (ExK w1.heap.size none w4 (hdE q.1) (.ex k n tx nm ty (.slice A l.length cap) l ⟨#[]⟩ 0)):=ke ((HK.out.below HB3.out).grown HM4.out.1 (.inl hc1))
 obtain ⟨v,hww,hx2⟩:=HM4.out.2.2.2
 clear hww
 have y3:=hx2.cell 3;have y4:=hx2.cell 4
 simp only [List.getElem?_toArray,List.getElem?_cons_succ,List.getElem?_cons_zero] at y3 y4
 have hc4:=hx2.lt
 clear hx2
 obtain ⟨r0,r1,r2,r3,r4,r5,r6,r7⟩:=HXR.out.all_8
 have g0:=HXR.out.fro 0;have g1:=HXR.out.fro 1;have g2:=HXR.out.fro 2;have g3:=HXR.out.fro 3;have g4:=HXR.out.fro 4;have g5:=HXR.out.fro 5;have g6:=HXR.out.fro 6;have g7:=HXR.out.fro 7
 obtain ⟨p0,p1,p2,p3,p4,p5,p6,p7⟩:=HX4.out.all_8
 have hl4:=HXR.out.lt
 have hl5:=HX4.out.lt
 have hne1:¬ c=w.heap.size:=by omega
 have hne2:¬ w.heap.size=c:=by omega
 obtain ⟨x,hx⟩:∃ x,f.wc=x:=⟨_,rfl⟩
 obtain ⟨ya,hya⟩:∃ x,f.wa=x:=⟨_,rfl⟩
 rw [hx] at y3 HR;rw [hya] at y4 HR
 clear hx hya
 by_cases hx0:x=0
 ·subst hx0
  have hbare:=HK4.out.bare
  obtain ⟨sz,hsz0⟩:∃ m,(Nd.ex k n tx nm ty (.slice A l.length cap) l ⟨#[]⟩ 0).size=m:=⟨_,rfl⟩
  obtain ⟨d,hd0⟩:∃ m,abk (Nd.ex k n tx nm ty (.slice A l.length cap) l ⟨#[]⟩ 0)=m:=⟨_,rfl⟩
  have hsq:(hdE q.1).size=sz:=by
   have:=ada (a:=[hdE q.1]) (b:=[Nd.ex k n tx nm ty (.slice A l.length cap) l ⟨#[]⟩ 0]) (by simp only [aai];rw [hbare])
   rw [ab1,ab1] at this;rw [this,hsz0]
  have hdq:abk (hdE q.1)=d:=by
   rw [← adg _ _ (Nat.le_refl _),← hbare,adg _ _ (Nat.le_refl _),hd0]
  have hsm:sz≤1000000:=by
   have h1:=HS.out
   have h3:(RS0 s).len≤8000:=by simpa [RS0,RS.len] using HZ.out
   omega
  have hdm:d≤1000000:=by have:=ael _ _ (Nat.le_refl (Nd.ex k n tx nm ty (.slice A l.length cap) l ⟨#[]⟩ 0).size);omega
  have HSZ:Hid (∀ w',Below w4.heap.size w4 w'→Calls Tryz.prog 33 #[.agg #[.int .i64 k,.int .i32 n,.string tx,.string nm,.string ty,.slice A l.length cap,.string ⟨#[]⟩,.int .i64 0]] w' fun e w''=>e=.returned (.int .i64 sz)∧Below w'.heap.size w' w'') :=
   ke fun w' hb=>expr_any w' k n tx nm ty _ l _ _ (HK4.out.below hb).now sz hsz0 hsm
  have HDP:Hid (∀ w',Below w4.heap.size w4 w'→Calls Tryz.prog 34 #[.agg #[.int .i64 k,.int .i32 n,.string tx,.string nm,.string ty,.slice A l.length cap,.string ⟨#[]⟩,.int .i64 0]] w' fun e w''=>e=.returned (.int .i64 d)∧Below w'.heap.size w' w'') :=
   ke fun w' hb=>by have:=depth_row sz hsm w' k n tx nm ty _ l _ _ (HK4.out.below hb).now (by omega);rw [hd0] at this;exact this
  rw [hsq,hdq] at HR
  have h0b:((0:Int) != 0)=false:=by simp
  clear hsq hdq hsz0 hd0 hbare hsz
  by_cases h1:(3000:Int) < sz
  ·have hr0:r=(5,0):=by have:=HR.out;rw [if_pos rfl,if_neg (by omega)] at this;exact this.symm
   subst hr0
   go_wp2_with (first
    | (go_at_call 16;refine (ae8 _ _ _).mono ?_;rintro e w6 ⟨rfl,rfl⟩)
    | (go_at_call 33;refine (HSZ.out _ (by first|exact (Below.refl _ _).alloc (Nat.le_refl _) _|exact ((Below.refl _ _).alloc (Nat.le_refl _) _).drew)).mono ?_;rintro e w7 ⟨rfl,hb⟩;have h0:=(Below.refl w4.heap.size w4).alloc (Nat.le_refl _) (.cells #[.int .i64 0,.int .i64 ya] 52);have hb2:=h0.trans (hb.mono h0.size);obtain ⟨r0,r1,r2,r3,r4,r5,r6,r7⟩:=(HXR.out.next hb2).all_8;have g0:=(HXR.out.next hb2).fro 0;have g1:=(HXR.out.next hb2).fro 1;have g2:=(HXR.out.next hb2).fro 2;have g3:=(HXR.out.next hb2).fro 3;have g4:=(HXR.out.next hb2).fro 4;have g5:=(HXR.out.next hb2).fro 5;have g6:=(HXR.out.next hb2).fro 6;have g7:=(HXR.out.next hb2).fro 7;obtain ⟨p0,p1,p2,p3,p4,p5,p6,p7⟩:=(HX4.out.next hb2).all_8;have HB7:=ke hb2;clear h0 hb hb2)
    | (go_at_call 34;refine (HDP.out _ HB7.out).mono ?_;rintro e w8 ⟨rfl,hb⟩;have hb2:=HB7.out.trans (hb.mono HB7.out.size);obtain ⟨r0,r1,r2,r3,r4,r5,r6,r7⟩:=(HXR.out.next hb2).all_8;have g0:=(HXR.out.next hb2).fro 0;have g1:=(HXR.out.next hb2).fro 1;have g2:=(HXR.out.next hb2).fro 2;have g3:=(HXR.out.next hb2).fro 3;have g4:=(HXR.out.next hb2).fro 4;have g5:=(HXR.out.next hb2).fro 5;have g6:=(HXR.out.next hb2).fro 6;have g7:=(HXR.out.next hb2).fro 7;obtain ⟨p0,p1,p2,p3,p4,p5,p6,p7⟩:=(HX4.out.next hb2).all_8;have HB8:=ke hb2;clear hb hb2))
   (try simp only [Exit.inBlock,Exit.then])
   obtain ⟨z0,z1,z2,z3,z4,z5,z6,z7⟩:=((HXR.out.next HB7.out).to_8 (.int .i64 0) (.int .i32 0) (.string ⟨#[]⟩) (.string ⟨#[]⟩) (.string ⟨#[]⟩) (.slice none 0 0) (.string ⟨#[]⟩) (.int .i64 0)).all_8
   refine bodyPost_ret (v:=.tuple #[.agg #[.int .i64 0,.int .i32 0,.string ⟨#[]⟩,.string ⟨#[]⟩,.string ⟨#[]⟩,.slice none 0 0,.string ⟨#[]⟩,.int .i64 0],.int .i64 5,.int .i64 0]) (by simp [results,Tryz.results10,go_sem,z0,z1,z2,z3,z4,z5,z6,z7]) rfl (HPC.out _ _ ⟨noE,rfl,?_,?_⟩)
   ·rw [HT.out];exact ExK.noE _ _ _
   ·exact acd (HWB.out.trans (HB7.out.mono HWB.out.size)) (Nat.le_refl _) _ _ _ _ _ _ _ _
  ·by_cases h2:(40:Int) < d
   ·have hr0:r=(5,0):=by have:=HR.out;rw [if_pos rfl,if_neg (by omega)] at this;exact this.symm
    subst hr0
    go_wp2_with (first
     | (go_at_call 16;refine (ae8 _ _ _).mono ?_;rintro e w6 ⟨rfl,rfl⟩)
     | (go_at_call 33;refine (HSZ.out _ (by first|exact (Below.refl _ _).alloc (Nat.le_refl _) _|exact ((Below.refl _ _).alloc (Nat.le_refl _) _).drew)).mono ?_;rintro e w7 ⟨rfl,hb⟩;have h0:=(Below.refl w4.heap.size w4).alloc (Nat.le_refl _) (.cells #[.int .i64 0,.int .i64 ya] 52);have hb2:=h0.trans (hb.mono h0.size);obtain ⟨r0,r1,r2,r3,r4,r5,r6,r7⟩:=(HXR.out.next hb2).all_8;have g0:=(HXR.out.next hb2).fro 0;have g1:=(HXR.out.next hb2).fro 1;have g2:=(HXR.out.next hb2).fro 2;have g3:=(HXR.out.next hb2).fro 3;have g4:=(HXR.out.next hb2).fro 4;have g5:=(HXR.out.next hb2).fro 5;have g6:=(HXR.out.next hb2).fro 6;have g7:=(HXR.out.next hb2).fro 7;obtain ⟨p0,p1,p2,p3,p4,p5,p6,p7⟩:=(HX4.out.next hb2).all_8;have HB7:=ke hb2;clear h0 hb hb2)
     | (go_at_call 34;refine (HDP.out _ HB7.out).mono ?_;rintro e w8 ⟨rfl,hb⟩;have hb2:=HB7.out.trans (hb.mono HB7.out.size);obtain ⟨r0,r1,r2,r3,r4,r5,r6,r7⟩:=(HXR.out.next hb2).all_8;have g0:=(HXR.out.next hb2).fro 0;have g1:=(HXR.out.next hb2).fro 1;have g2:=(HXR.out.next hb2).fro 2;have g3:=(HXR.out.next hb2).fro 3;have g4:=(HXR.out.next hb2).fro 4;have g5:=(HXR.out.next hb2).fro 5;have g6:=(HXR.out.next hb2).fro 6;have g7:=(HXR.out.next hb2).fro 7;obtain ⟨p0,p1,p2,p3,p4,p5,p6,p7⟩:=(HX4.out.next hb2).all_8;have HB8:=ke hb2;clear hb hb2))
    (try simp only [Exit.inBlock,Exit.then])
    obtain ⟨z0,z1,z2,z3,z4,z5,z6,z7⟩:=((HXR.out.next HB8.out).to_8 (.int .i64 0) (.int .i32 0) (.string ⟨#[]⟩) (.string ⟨#[]⟩) (.string ⟨#[]⟩) (.slice none 0 0) (.string ⟨#[]⟩) (.int .i64 0)).all_8
    refine bodyPost_ret (v:=.tuple #[.agg #[.int .i64 0,.int .i32 0,.string ⟨#[]⟩,.string ⟨#[]⟩,.string ⟨#[]⟩,.slice none 0 0,.string ⟨#[]⟩,.int .i64 0],.int .i64 5,.int .i64 0]) (by simp [results,Tryz.results10,go_sem,z0,z1,z2,z3,z4,z5,z6,z7]) rfl (HPC.out _ _ ⟨noE,rfl,?_,?_⟩)
    ·rw [HT.out];exact ExK.noE _ _ _
    ·exact acd (HWB.out.trans (HB8.out.mono HWB.out.size)) (Nat.le_refl _) _ _ _ _ _ _ _ _
   ·have hr0:r=(0,0):=by have:=HR.out;rw [if_pos rfl,if_pos (by omega)] at this;exact this.symm
    subst hr0
    go_wp2_with (first
     | (go_at_call 16;refine (ae8 _ _ _).mono ?_;rintro e w6 ⟨rfl,rfl⟩)
     | (go_at_call 33;refine (HSZ.out _ (by first|exact (Below.refl _ _).alloc (Nat.le_refl _) _|exact ((Below.refl _ _).alloc (Nat.le_refl _) _).drew)).mono ?_;rintro e w7 ⟨rfl,hb⟩;have h0:=(Below.refl w4.heap.size w4).alloc (Nat.le_refl _) (.cells #[.int .i64 0,.int .i64 ya] 52);have hb2:=h0.trans (hb.mono h0.size);obtain ⟨r0,r1,r2,r3,r4,r5,r6,r7⟩:=(HXR.out.next hb2).all_8;have g0:=(HXR.out.next hb2).fro 0;have g1:=(HXR.out.next hb2).fro 1;have g2:=(HXR.out.next hb2).fro 2;have g3:=(HXR.out.next hb2).fro 3;have g4:=(HXR.out.next hb2).fro 4;have g5:=(HXR.out.next hb2).fro 5;have g6:=(HXR.out.next hb2).fro 6;have g7:=(HXR.out.next hb2).fro 7;obtain ⟨p0,p1,p2,p3,p4,p5,p6,p7⟩:=(HX4.out.next hb2).all_8;have HB7:=ke hb2;clear h0 hb hb2)
     | (go_at_call 34;refine (HDP.out _ HB7.out).mono ?_;rintro e w8 ⟨rfl,hb⟩;have hb2:=HB7.out.trans (hb.mono HB7.out.size);obtain ⟨r0,r1,r2,r3,r4,r5,r6,r7⟩:=(HXR.out.next hb2).all_8;have g0:=(HXR.out.next hb2).fro 0;have g1:=(HXR.out.next hb2).fro 1;have g2:=(HXR.out.next hb2).fro 2;have g3:=(HXR.out.next hb2).fro 3;have g4:=(HXR.out.next hb2).fro 4;have g5:=(HXR.out.next hb2).fro 5;have g6:=(HXR.out.next hb2).fro 6;have g7:=(HXR.out.next hb2).fro 7;obtain ⟨p0,p1,p2,p3,p4,p5,p6,p7⟩:=(HX4.out.next hb2).all_8;have HB8:=ke hb2;clear hb hb2))
    (try simp only [Exit.inBlock,Exit.then])
    obtain ⟨z0,z1,z2,z3,z4,z5,z6,z7⟩:=((HXR.out.next HB8.out).to_8 (.int .i64 k) (.int .i32 n) (.string tx) (.string nm) (.string ty) (.slice A l.length cap) (.string ⟨#[]⟩) (.int .i64 0)).all_8
    refine bodyPost_ret (v:=.tuple #[.agg #[.int .i64 k,.int .i32 n,.string tx,.string nm,.string ty,.slice A l.length cap,.string ⟨#[]⟩,.int .i64 0],.int .i64 0,.int .i64 0]) (by simp [results,Tryz.results10,go_sem,z0,z1,z2,z3,z4,z5,z6,z7]) rfl (HPC.out _ _ ⟨.ex k n tx nm ty (.slice A l.length cap) l ⟨#[]⟩ 0,rfl,?_,?_⟩)
    ·rw [HT.out]
     exact ((HK4.out.below HB8.out).grown (aaw _ _ _ _ _ _ _ _ _ _) (.inl hw1)).mono (Nat.le_of_lt hw1)
    ·exact acd (HWB.out.trans (HB8.out.mono HWB.out.size)) (Nat.le_refl _) _ _ _ _ _ _ _ _
 ·have hxb:(x != 0)=true:=by simpa using hx0
  have hr0:r=(x,ya):=by have:=HR.out;simp [hx0] at this;exact this.symm
  subst hr0
  go_upto_region 5 with (go_at_call 16;refine (ae8 _ _ _).mono ?_;rintro e w6 ⟨rfl,rfl⟩)
  go_region
  go_wp2_with fail
  (try simp only [Exit.inBlock,Exit.then])
  obtain ⟨z0,z1,z2,z3,z4,z5,z6,z7⟩:=((HXR.out.to_8 (.int .i64 0) (.int .i32 0) (.string ⟨#[]⟩) (.string ⟨#[]⟩) (.string ⟨#[]⟩) (.slice none 0 0) (.string ⟨#[]⟩) (.int .i64 0)).next ((Below.refl _ _).alloc (Nat.le_refl _) (.cells #[.int .i64 x,.int .i64 ya] 52)).drew).all_8
  refine bodyPost_ret (v:=.tuple #[.agg #[.int .i64 0,.int .i32 0,.string ⟨#[]⟩,.string ⟨#[]⟩,.string ⟨#[]⟩,.slice none 0 0,.string ⟨#[]⟩,.int .i64 0],.int .i64 x,.int .i64 ya]) (by simp [results,Tryz.results10,go_sem,z0,z1,z2,z3,z4,z5,z6,z7]) rfl (HPC.out _ _ ⟨noE,rfl,?_,?_⟩)
  ·rw [HT.out,if_neg hx0];exact ExK.noE _ _ _
  ·exact ((acd HWB.out (Nat.le_refl _) _ _ _ _ _ _ _ _).alloc (Nat.le_trans HWB.out.size (by simp)) _).drew
end
section
open Go.RowKit
theorem all_wrongQ {s:ByteArray} (h:aie s≠0):afv s=[]:=by
 unfold aie at h;unfold afv
 by_cases h1:8000 < s.size
 ·rw [if_pos (.inl h1)]
 ·by_cases h2:0≤acn s
  ·rw [if_pos (.inr h2)]
  ·rw [if_neg h1,if_neg h2] at h;exact absurd rfl h
theorem fin_nil {t:RS} (h:t.ws=[]):t.fin=t:=by unfold RS.fin;rw [h];rfl
theorem agk {s:ByteArray} (h:aie s≠0):exO s=(aie s,allA s):=by
 have hb:Fb (RS0 s):=⟨h,by show (afv s).map afr=[];rw [all_wrongQ h];rfl⟩
 have hf:=RX_bad .expr hb
 have e1:(ex (RS0 s)).2.fin=(ex (RS0 s)).2:=fin_nil hf.2.2.1
 have e2:(ex (RS0 s)).2.wc=aie s:=hf.1
 have e3:(ex (RS0 s)).2.wa=allA s:=hf.2.1
 unfold exO
 simp only [e1,e2,e3]
 rw [if_neg h]
def QS0:QS:=⟨0,0,0,0,false,0⟩
theorem Rel.start (s:ByteArray) (h:aie s=0):Rel (afv s) s.size QS0 (RS0 s) :=
 ⟨rfl,Nat.zero_le _,fun _=>⟨rfl,rfl,rfl,Int.le_refl 0,(by decide:(0:Int)≤41)⟩,fun e=>absurd h e,fun e=>by simp [QS0] at e,fun _=>rfl⟩
theorem ahc {w:World} {B:Nat} {A:Option Addr} {cap:Nat} {l:List Wd} {c:Nat} (ho:w.ownsRow B 94 3 (.slice A l.length cap) l.length (cellsW l)) (hw:∀ x ∈ l,aje x) (hl:l.length≤8000) (hlc:l.length≤cap) (hc:w.heap.size≤c) (W0:World) (hb:Below w.heap.size w W0) (n:Int):(⟨W0,c,l,n,A,cap⟩:QC).ok:=by
 refine ⟨hw,hl,hlc,own_cap ho,fun hn=>?_⟩
 obtain ⟨g,cap2,hv,hg,hlt,hat⟩:=ags ho hn
 injection hv with h1 h2 h3
 refine ⟨g,0,h1,fun e=>?_,fun i x hx=>?_⟩
 ·have e':g=c:=e
  omega
 ·have k0:=(hat (i * 3+0) (.int .i64 x.k) (by rw [afc l i 0 x hx (by omega)];rfl)).1
  have k1:=(hat (i * 3+1) (.string ⟨x.t.toArray⟩) (by rw [afc l i 1 x hx (by omega)];rfl)).1
  have k2:=(hat (i * 3+2) (.int .i64 x.a) (by rw [afc l i 2 x hx (by omega)];rfl)).1
  have K:=Keep.below hb
  refine ⟨?_,?_,?_⟩
  ·show W0.cell? ⟨g,0+i * 3,none⟩=_
   rw [Nat.zero_add];exact K _ _ k0
  ·show W0.cell? ⟨g,0+i * 3+1,none⟩=_
   rw [Nat.zero_add];exact K _ _ k1
  ·show W0.cell? ⟨g,0+i * 3+2,none⟩=_
   rw [Nat.zero_add];exact K _ _ k2
end
end Go.Proofs.YtddnnohfbagbnaaGreatDoor
