/- Parts of the proof: Qn, Qo, Qp, Qq, Qr, Qs, Qt, Qu, Qv, Qw, Qx, Qy, Qya, Qyb, Qyc, Qyd, Qye, Qz. -/
import Derived.Test.YtddnnohfbagbnaaGreatDoorHi
import Derived.Test.YtddnnohfbagbnaaGreatDoorP3
import Derived.Deep.RegionWith
set_option maxHeartbeats 8000000
set_option maxRecDepth 100000
namespace Go.Proofs.YtddnnohfbagbnaaGreatDoor
set_option linter.unusedSimpArgs false
set_option linter.unusedVariables false
section
open Go.RowKit
variable {K:QC} {q q':QS} {s t:RS} {w w' w'':World}
theorem Tq.out (h:Tq K t w w') {q0:QS} (hq:Qm K q0 w') (hr:Rel K.L K.n q0 t) (ho:t.wc=0→1≤t.op):Tq K t.dec w (w'.setCell ⟨K.c,5,none⟩ (.int .i64 (wrap64 (q0.dp - 1)))):=by
 refine h.trans (Tq.of (hq.deep (wrap64 (q0.dp - 1))) ?_)
 by_cases h0:t.wc=0
 ·have e:wrap64 (q0.dp - 1)=q0.dp - 1:=by
   have:=(hr.2.2.1 h0).2.2
   simp only [wrap64];omega
  rw [e]
  exact hr.out ho
 ·exact hr.deep h0 (wrap64 (q0.dp - 1)) (wrap64 (t.op - 1))
theorem need_op (t:RS) (p:ByteArray) {k:Int} (h:t.wc=0→k≤t.op):(t.need p).wc=0→k≤(t.need p).op:=fun h0=>by
 obtain ⟨a,b⟩:=OpS.need t p h0
 rw [b];exact h a
theorem need_wc {t:RS} {p:ByteArray} (h:(t.need p).wc=0):t.wc=0:=(OpS.need t p h).1
theorem args_ofQ (N:Nat) (IH:∀ m,m < N→SpecEx m):agl N:=by
 intro K s w h hn
 have hlt:=h.lt
 have hle0:=h.le
 have HSG:=ke (aa9 h adl (by decide))
 have HRQ:=ke h
 obtain ⟨RA,hRA⟩:∃ R,RX .args s=R:=⟨_,rfl⟩
 rcases ab5 s aah with ⟨hs,he⟩|⟨hs,h41,he⟩|⟨hs,h41,he⟩
 ·rw [hs] at HSG
  have hfl:FlS (s.fail 3) RA.2:=by
   rw [← hRA,RX_args,he]
   have f0:=ahl s (c:=3) (by decide)
   have f1:=f0.inc
   have f2:=RX_bad .listed (f1.fb f0)
   have f3:=f1.trans f2
   exact f3.trans (Fb.leave (f3.fb f0) _)
  have hbad:RA.2.wc≠0:=by rw [hfl.1];exact abt s (by decide)
  rw [hRA]
  have HFL:=ke hfl
  have HBAD:=ke hbad
  clear h hn IH hRA hs he hfl hbad
  go_enter Tryz.func136,Tryz.ntmps136
  go_wp2_with (first|(go_at_call 22;refine HSG.out.mono ?_;rintro e w1 ⟨rfl,rfl⟩)|(go_at_call 36;refine (aeb (k:=3) HRQ.out (by decide)).mono ?_;rintro e w2 ⟨rfl,ht⟩;have HT2:=ke ht;clear ht))
  go_ret
  obtain ⟨hg,q,hm,hr⟩:=HT2.out
  exact ⟨_,[],rfl,OwnE.nil _ _,fun e=>absurd e HBAD.out,by simp,hg,q,hm,hr.fl (ahl s (by decide)) HFL.out⟩
 ·rw [hs] at HSG
  have hfl:FlS (s.fail 4) RA.2:=by
   rw [← hRA,RX_args,he]
   have f0:=ahl s (c:=4) (by decide)
   have f1:=f0.inc
   have f2:=RX_bad .listed (f1.fb f0)
   have f3:=f1.trans f2
   exact f3.trans (Fb.leave (f3.fb f0) _)
  have hbad:RA.2.wc≠0:=by rw [hfl.1];exact abt s (by decide)
  rw [hRA]
  obtain ⟨q,hm,hr⟩:=h
  have h0:=(aea hm hr adl hs).1
  have hdp:40 < q.dp:=by rw [(hr.2.2.1 h0).2.2.1,h41];decide
  have HO:=ke (open_no hm hdp)
  have HRL:=ke hr
  have HFL:=ke hfl
  have HBAD:=ke hbad
  clear hm hr hn IH hRA hs he hfl hbad hdp h0
  go_enter Tryz.func136,Tryz.ntmps136
  go_wp2_with (first|(go_at_call 22;refine HSG.out.mono ?_;rintro e w1 ⟨rfl,rfl⟩)|(go_at_call 87;refine HO.out.mono ?_;rintro e w2 ⟨rfl,ht⟩;have HT2:=ke ht;clear ht))
  go_ret
  exact ⟨_,[],rfl,OwnE.nil _ _,fun e=>absurd e HBAD.out,by simp,Tq.of HT2.out ((HRL.out.fail (by decide)).fl (ahl s (by decide)) HFL.out)⟩
 ·rw [hs] at HSG
  obtain ⟨q,hm,hr⟩:=h
  obtain ⟨h0,hk⟩:=aea hm hr adl hs
  obtain ⟨_,_,b3,b4,b5⟩:=hr.2.2.1 h0
  have h40:s.op≤40:=by omega
  have HO:=ke (open_yes hm (by omega) (by omega))
  have hin:=hr.into h0 hk h40
  obtain ⟨u,hu⟩:∃ u,s.skip.inc=u:=⟨_,rfl⟩
  rw [hu] at hin he
  have hu0:u.wc=0:=by rw [← hu];exact h0
  have hul:u.len+1≤s.len:=by
   have h1:=aa4 s aah
   have h2:=aa5 hs
   rw [he] at h1;omega
  have huo:1≤u.op:=by rw [← hu];show 1≤wrap64 (s.op+1);simp only [wrap64];omega
  obtain ⟨R,hR⟩:∃ R,RX .listed u=R:=⟨_,rfl⟩
  have hRA2:RA=(R.1,R.2.leave aa6):=by rw [← hRA,RX_args,he,hR]
  have huB:OpB u:=hin.opb
  have hRop:R.2.wc=0→1≤R.2.op:=fun e=>by
   have:=RX_op .listed u huB
   rw [hR] at this
   rw [(this e).2];exact huo
  rw [hRA,hRA2]
  have HRO:=ke hRop
  have HR:=ke hR
  have HIN:=ke hin
  have HIH:=ke IH
  have hqk:(q.k:Int)≤8000:=by have:=hm.few;omega
  have hkl:=hk
  have HMQ:=ke hm
  obtain ⟨i0,hi,hz0,hz1,hz2⟩:=info_parts Tryz.infoEx
  clear hr hm IH hRA hRA2 hs he hR hRop hin hk
  go_enter Tryz.func136,Tryz.ntmps136
  go_upto_region 7 with (first|(go_at_call 22;refine HSG.out.mono ?_;rintro e w1 ⟨rfl,rfl⟩)|(go_at_call 87;refine HO.out.mono ?_;rintro e w2 ⟨rfl,ht⟩;have d2:w2.cell? ⟨K.c,2,none⟩=some (.int .i64 q.k):=ht.2.cells.2.2.1;have f2:=ht.2.2.2.2.fro 2;have hst:=ht.trans (ht.2.step hkl);simp only [Int.natCast_add,Int.natCast_one] at hst;have HT2:=ke (Tq.of hst HIN.out);clear ht hst))
  refine aak (F:=fun W=>Tq K u w W) HT2.out ?_
  rintro W2 hT
  have HT3:=ke hT
  clear hT HT2 d2 f2
  go_wp2_with fail
  go_loopw [3] (fun v3 wr=>∃ (ys:List Nd) (s':RS),OwnE w.heap.size wr v3 ys∧Tq K s' w wr∧s'.wc=0∧s'.len≤u.len∧ys.length+s'.len≤8001∧((ys=[]∧RX .listed s'=R)∨(ys≠[]∧∃ acc,aai ys=aai acc∧RX (.more (acc ++ [hdE (RX .expr s').1])) (RX .expr s').2=R))) (fun v3 wr=>K.L.length - atOf wr K.c)
  case atStart=>exact ⟨[],u,OwnE.nil _ _,HT3.out,hu0,Nat.le_refl _,by have:=HT3.out.2.few;simp;omega,.inl ⟨rfl,HR.out⟩⟩
  case round =>
   obtain ⟨ys,s',ho,hT,h0',hle',hyl,hcase⟩:=hrel
   have hleft:=hT.2.left h0'
   have HTR:=ke hT
   have HOW:=ke ho
   have HSH:=ke (aa9 hT.2 fx_shut (by decide))
   obtain ⟨q',hm',hr'⟩:=hT.2
   have c3:wr.cell? ⟨K.c,3,none⟩=some (.int .i64 0):=by
    have:=hm'.cells.2.2.2.1
    rw [(hr'.2.2.1 h0').1] at this;exact this
   clear hm' hr'
   obtain ⟨A3,cap3,rfl⟩:=ho.form
   clear hT ho
   rcases hcase with ⟨hys,hcs⟩|⟨hne,acc,hbr,hmore⟩
   ·cases hsh:s'.sees 0 aa6 with
    | true =>
     subst hys
     have hRR:R=([],s'):=by rw [← hcs,RX_listed,hsh];simp
     rw [hsh] at HSH
     have HRE:=ke hRR
     have HTT:Hid (Tq K R.2 w wr):=ke (by rw [hRR];exact HTR.out)
     clear hcs hsh hRR
     simp only [List.length_nil] at HOW ⊢
     go_wp2_with (first
      | (go_at_call 22;refine HSH.out.mono ?_;rintro e w1 ⟨rfl,rfl⟩)
      | (go_at_call 19;refine (aet HTT.out.2 aa6 fx_shut (by decide)).mono ?_;rintro e w5 ⟨rfl,ht⟩;have HT5:=ke (HTT.out.trans ht);have HG5:=ke ht.1;obtain ⟨_,q5,hm5,hr5⟩:=ht;have d5:w5.cell? ⟨K.c,5,none⟩=some (.int .i64 q5.dp):=hm5.cells.2.2.2.2.2;have f5:=hm5.2.2.2.fro 5;have HE5:=ke (HT5.out.out hm5 hr5 (need_op _ _ HRO.out));have HG6:=ke (hm5.deep (wrap64 (q5.dp - 1))).1;clear hm5 hr5))
     go_ret
     exact ⟨_,[],rfl,(HOW.out.grown HG5.out hlt).grown HG6.out hlt,fun e=>by rw [HRE.out],by simp,HE5.out⟩
    | false =>
     rw [hsh] at HSH
     obtain ⟨acc,hbr,hmore⟩:∃ acc,aai ys=aai acc∧RX (.more (acc ++ [hdE (RX .expr s').1])) (RX .expr s').2=R:=⟨[],by rw [hys],by rw [← hcs,RX_listed,hsh];simp⟩
     clear hcs hsh
     subst hys
     simp only [List.length_nil] at HOW hyl ⊢
     obtain ⟨r,hr⟩:∃ r,RX .expr s'=r:=⟨_,rfl⟩
     rw [hr] at hmore
     have hrl:r.2.len≤s'.len:=by rw [← hr];exact ae2 _ _
     have HX:Hid (∀ w',Rq K s' w'→Calls Tryz.prog 35 #[.pointer (some ⟨K.c,0,none⟩)] w' (ExQ K w' r)):=by
      show ∀ w',_
      intro w' h'
      have:=HIH.out (20 * s'.len+13) (by omega) K s' w' h' (Nat.le_refl _)
      rw [hr] at this;exact this
     have HMORE:=ke hmore
     have HBR:=ke hbr
     clear hr hmore hbr
     go_wp2_with (first
      | (go_at_call 22;refine HSH.out.mono ?_;rintro e w1 ⟨rfl,rfl⟩)
      | (go_at_call 35;refine (HX.out _ HTR.out.2).mono ?_;rintro e w6 ⟨x,y,rfl,hk,hbe,hm⟩;have HK:=ke hk;obtain ⟨k,m',tx,nm,ty,A,cap,l,rfl,_,_,hb0⟩:=hk;have HBE:=ke hbe;have HBY:=ke hb0;clear hbe hb0;have HM5:=ke hm;clear hm;have HY:=ke (OwnE.one HK.out HM5.out.1.size);have HO5:=ke ((HOW.out.grown HM5.out.1 hlt).below ((Below.refl _ _).alloc (Nat.le_refl _) (.cells (aab (.ex k m' tx nm ty (.slice A l.length cap) l ⟨#[]⟩ 0)).toArray 35)));have HMT:=ke (HTR.out.trans (HM5.out.trans (Tq.below HM5.out.2 ((Below.refl _ _).alloc (Nat.le_refl _) (.cells (aab (.ex k m' tx nm ty (.slice A l.length cap) l ⟨#[]⟩ 0)).toArray 35)))));simp only [aab] at HY HO5 HMT;simp only [aab])
      | (at_builtin;refine acw rfl (.tmp 34) (.tmp 37) 33 rfl w.heap.size 35 i0 _ 8 112 Tryz.underlying33 hi hz0 hz1 hz2 rfl (by decide) _ _ _ rfl HO5.out.1 wr.heap.size _ _ _ rfl HY.out.1 (ai7 HY.out.2.1) ?c3 ?c4 ?c5 ?_))
     case c3=>unfold maxLen;simp<;>omega
     case c4=>simp<;>omega
     case c5=>have:=HMT.out.1.size;exact this
     intro v2 w7 hown2 hgrow hat
     have hvb:∀ k,(Value.slice A3 0 cap3).ownBlock=some k→k < wr.heap.size:=fun k hk=>(HOW.out.lt k hk).2
     have HN:=ke (OwnE.app HO5.out HY.out HTR.out.1.size hvb hown2 hgrow (hat.imp id fun e=>by rw [e];simp) (by simp<;>omega))
     have HM7:=ke (HMT.out.row hgrow (fun k hk=>(HOW.out.lt k hk).1) hlt hle0)
     have HB7:Hid (r.2.wc=0→aai (([]:List Nd) ++ [Nd.ex k m' tx nm ty (.slice A l.length cap) l ⟨#[]⟩ 0])=aai (acc ++ [hdE r.1])):=by
      show _→_
      intro e
      rw [aap,aap,HBR.out];simp only [aai];rw [HBY.out,HBE.out e]
     clear hown2 hgrow hat hvb
     have HTK:=ke (aes HM7.out.2 aei akl (by decide))
     cases hsc:r.2.sees 0 aei with
     | false =>
      have hRR:R=(acc ++ [hdE r.1],r.2):=by rw [← HMORE.out,RX_more,hsc];simp
      have e1:r.2.take aei=r.2:=by unfold RS.take;rw [hsc];simp
      rw [hsc,e1] at HTK
      have HRE:=ke hRR
      have HTT0:Hid (∀ w',Tq K r.2 w7 w'→Tq K R.2 w w'):=ke fun w' ht=>by rw [HRE.out];exact HM7.out.trans ht
      clear hsc hRR e1
      go_wp2_with (first
       | (go_at_call 21;refine HTK.out.mono ?_;rintro e w8 ⟨rfl,ht⟩;have HG4:=ke ht.1;have HTT:=ke (HTT0.out _ ht);clear ht)
       | (go_at_call 19;refine (aet HTT.out.2 aa6 fx_shut (by decide)).mono ?_;rintro e w5 ⟨rfl,ht⟩;have HT5:=ke (HTT.out.trans ht);have HG5:=ke ht.1;obtain ⟨_,q5,hm5,hr5⟩:=ht;have d5:w5.cell? ⟨K.c,5,none⟩=some (.int .i64 q5.dp):=hm5.cells.2.2.2.2.2;have f5:=hm5.2.2.2.fro 5;have HE5:=ke (HT5.out.out hm5 hr5 (need_op _ _ HRO.out));have HG6:=ke (hm5.deep (wrap64 (q5.dp - 1))).1;clear hm5 hr5))
      go_ret
      refine ⟨_,_,rfl,((HN.out.grown HG4.out hlt).grown HG5.out hlt).grown HG6.out hlt,fun e=>?_,by simp<;>omega,HE5.out⟩
      have e2:R.2.wc=0:=need_wc e
      rw [HRE.out] at e2
      rw [HB7.out e2,HRE.out]
     | true =>
      have e1:r.2.take aei=r.2.skip:=by unfold RS.take;rw [hsc];simp
      rw [hsc,e1] at HTK
      obtain ⟨q7,hm7,hr7⟩:=HM7.out.2
      have hz7:=(aea hm7 hr7 akl hsc).1
      have hl7:=aa5 hsc
      have hl8:=aaf r.2
      have HS7:=ke hsc
      clear hm7 hr7 hsc e1
      go_wp2_with (go_at_call 21;refine HTK.out.mono ?_;rintro e w8 ⟨rfl,ht⟩;have HT8:=ke ht;clear ht)
      go_roundw
      case rel =>
       refine ⟨_,r.2.skip,HN.out.grown HT8.out.1 hlt,HM7.out.trans HT8.out,hz7,by omega,by simp<;>omega,.inr ⟨by simp,acc ++ [hdE r.1],HB7.out hz7,?_⟩⟩
       have h9:=HMORE.out
       rw [RX_more,HS7.out] at h9
       simpa using h9
      case measure=>rw [hleft,(HT8.out.2.left hz7)];omega
   ·have hpos:(0:Int) < (ys.length:Int):=by
     have:=List.length_pos_iff.2 hne;omega
    clear HSH
    obtain ⟨r,hr⟩:∃ r,RX .expr s'=r:=⟨_,rfl⟩
    rw [hr] at hmore
    have hrl:r.2.len≤s'.len:=by rw [← hr];exact ae2 _ _
    have HX:Hid (∀ w',Rq K s' w'→Calls Tryz.prog 35 #[.pointer (some ⟨K.c,0,none⟩)] w' (ExQ K w' r)):=by
     show ∀ w',_
     intro w' h'
     have:=HIH.out (20 * s'.len+13) (by omega) K s' w' h' (Nat.le_refl _)
     rw [hr] at this;exact this
    have HMORE:=ke hmore
    have HBR:=ke hbr
    clear hr hmore hbr
    go_wp2_with (first
     | fail
     | (go_at_call 35;refine (HX.out _ HTR.out.2).mono ?_;rintro e w6 ⟨x,y,rfl,hk,hbe,hm⟩;have HK:=ke hk;obtain ⟨k,m',tx,nm,ty,A,cap,l,rfl,_,_,hb0⟩:=hk;have HBE:=ke hbe;have HBY:=ke hb0;clear hbe hb0;have HM5:=ke hm;clear hm;have HY:=ke (OwnE.one HK.out HM5.out.1.size);have HO5:=ke ((HOW.out.grown HM5.out.1 hlt).below ((Below.refl _ _).alloc (Nat.le_refl _) (.cells (aab (.ex k m' tx nm ty (.slice A l.length cap) l ⟨#[]⟩ 0)).toArray 35)));have HMT:=ke (HTR.out.trans (HM5.out.trans (Tq.below HM5.out.2 ((Below.refl _ _).alloc (Nat.le_refl _) (.cells (aab (.ex k m' tx nm ty (.slice A l.length cap) l ⟨#[]⟩ 0)).toArray 35)))));simp only [aab] at HY HO5 HMT;simp only [aab])
     | (at_builtin;refine acw rfl (.tmp 34) (.tmp 37) 33 rfl w.heap.size 35 i0 _ 8 112 Tryz.underlying33 hi hz0 hz1 hz2 rfl (by decide) _ _ _ rfl HO5.out.1 wr.heap.size _ _ _ rfl HY.out.1 (ai7 HY.out.2.1) ?c3 ?c4 ?c5 ?_))
    case c3=>unfold maxLen;simp;omega
    case c4=>simp;omega
    case c5=>have:=HMT.out.1.size;exact this
    intro v2 w7 hown2 hgrow hat
    have hvb:∀ k,(Value.slice A3 ys.length cap3).ownBlock=some k→k < wr.heap.size:=fun k hk=>(HOW.out.lt k hk).2
    have HN:=ke (OwnE.app HO5.out HY.out HTR.out.1.size hvb hown2 hgrow (hat.imp id fun e=>by rw [e];simp) (by simp;omega))
    have HM7:=ke (HMT.out.row hgrow (fun k hk=>(HOW.out.lt k hk).1) hlt hle0)
    have HB7:Hid (r.2.wc=0→aai (ys ++ [Nd.ex k m' tx nm ty (.slice A l.length cap) l ⟨#[]⟩ 0])=aai (acc ++ [hdE r.1])):=by
     show _→_
     intro e
     rw [aap,aap,HBR.out];simp only [aai];rw [HBY.out,HBE.out e]
    clear hown2 hgrow hat hvb
    have HTK:=ke (aes HM7.out.2 aei akl (by decide))
    cases hsc:r.2.sees 0 aei with
    | false =>
     have hRR:R=(acc ++ [hdE r.1],r.2):=by rw [← HMORE.out,RX_more,hsc];simp
     have e1:r.2.take aei=r.2:=by unfold RS.take;rw [hsc];simp
     rw [hsc,e1] at HTK
     have HRE:=ke hRR
     have HTT0:Hid (∀ w',Tq K r.2 w7 w'→Tq K R.2 w w'):=ke fun w' ht=>by rw [HRE.out];exact HM7.out.trans ht
     clear hsc hRR e1
     go_wp2_with (first
      | (go_at_call 21;refine HTK.out.mono ?_;rintro e w8 ⟨rfl,ht⟩;have HG4:=ke ht.1;have HTT:=ke (HTT0.out _ ht);clear ht)
      | (go_at_call 19;refine (aet HTT.out.2 aa6 fx_shut (by decide)).mono ?_;rintro e w5 ⟨rfl,ht⟩;have HT5:=ke (HTT.out.trans ht);have HG5:=ke ht.1;obtain ⟨_,q5,hm5,hr5⟩:=ht;have d5:w5.cell? ⟨K.c,5,none⟩=some (.int .i64 q5.dp):=hm5.cells.2.2.2.2.2;have f5:=hm5.2.2.2.fro 5;have HE5:=ke (HT5.out.out hm5 hr5 (need_op _ _ HRO.out));have HG6:=ke (hm5.deep (wrap64 (q5.dp - 1))).1;clear hm5 hr5))
     go_ret
     refine ⟨_,_,rfl,((HN.out.grown HG4.out hlt).grown HG5.out hlt).grown HG6.out hlt,fun e=>?_,by simp;omega,HE5.out⟩
     have e2:R.2.wc=0:=need_wc e
     rw [HRE.out] at e2
     rw [HB7.out e2,HRE.out]
    | true =>
     have e1:r.2.take aei=r.2.skip:=by unfold RS.take;rw [hsc];simp
     rw [hsc,e1] at HTK
     obtain ⟨q7,hm7,hr7⟩:=HM7.out.2
     have hz7:=(aea hm7 hr7 akl hsc).1
     have hl7:=aa5 hsc
     have hl8:=aaf r.2
     have HS7:=ke hsc
     clear hm7 hr7 hsc e1
     go_wp2_with (go_at_call 21;refine HTK.out.mono ?_;rintro e w8 ⟨rfl,ht⟩;have HT8:=ke ht;clear ht)
     go_roundw
     case rel =>
      refine ⟨_,r.2.skip,HN.out.grown HT8.out.1 hlt,HM7.out.trans HT8.out,hz7,by omega,by simp;omega,.inr ⟨by simp,acc ++ [hdE r.1],HB7.out hz7,?_⟩⟩
      have h9:=HMORE.out
      rw [RX_more,HS7.out] at h9
      simpa using h9
     case measure=>rw [hleft,(HT8.out.2.left hz7)];omega
end
section
open Go.RowKit
theorem ExK.as {B:Nat} {r:Option Nat} {w:World} {x y z:Nd} (h:ExK B r w x y) (e:aaq x=aaq z):ExK B r w z y:=by
 obtain ⟨k,n,tx,nm,ty,A,cap,l,h1,h2,h3,h4⟩:=h
 exact ⟨k,n,tx,nm,ty,A,cap,l,h1,h2,h3,h4.trans e⟩
def FolQ (K:QC) (w:World) (b2:Nat) (s:RS) (x:Nd) (k m:Int) (tx nm ty:ByteArray) (A:Option Addr) (cap:Nat) (l:List Nd) (w':World):Prop :=
 Tq K s w w'∧Bx w' b2 #[.int .i64 k,.int .i32 m,.string tx,.string nm,.string ty,.slice A l.length cap,.string ⟨#[]⟩,.int .i64 0] 35∧Bx w' w.heap.size #[.int .i64 0,.int .i32 0,.string ⟨#[]⟩,.string ⟨#[]⟩,.string ⟨#[]⟩,.slice none 0 0,.string ⟨#[]⟩,.int .i64 0] 35∧ExK (w.heap.size+1) (some b2) w' x (.ex k m tx nm ty (.slice A l.length cap) l ⟨#[]⟩ 0)∧w.heap.size < b2∧K.c < w.heap.size∧K.W0.heap.size≤w.heap.size
section
variable {K:QC} {w w' w'':World} {b2:Nat} {s s2:RS} {x z:Nd} {k m:Int} {tx nm ty:ByteArray} {A:Option Addr} {cap:Nat} {l:List Nd}
theorem FolQ.below (h:FolQ K w b2 s x k m tx nm ty A cap l w') (hb:Below w'.heap.size w' w''):FolQ K w b2 s x k m tx nm ty A cap l w'' :=
 ⟨h.1.trans (Tq.below h.1.2 hb),h.2.1.next hb,h.2.2.1.next hb,h.2.2.2.1.below hb,h.2.2.2.2⟩
theorem FolQ.move (h:FolQ K w b2 s x k m tx nm ty A cap l w') (hm:Tq K s2 w' w''):FolQ K w b2 s2 x k m tx nm ty A cap l w'' :=
 have h1:=h.2.2.2.2.1
 have h2:=h.2.2.2.2.2
 ⟨h.1.trans hm,h.2.1.grown hm.1 (by omega),h.2.2.1.grown hm.1 (by omega),h.2.2.2.1.grown hm.1 (.inl (by omega)),h.2.2.2.2⟩
theorem FolQ.as (h:FolQ K w b2 s x k m tx nm ty A cap l w') (e:aaq x=aaq z):FolQ K w b2 s z k m tx nm ty A cap l w' :=
 ⟨h.1,h.2.1,h.2.2.1,h.2.2.2.1.as e,h.2.2.2.2⟩
theorem FolQ.put {x':Nd} {k' m':Int} {tx' nm' ty':ByteArray} {A':Option Addr} {cap':Nat} {l':List Nd} (h:FolQ K w b2 s x' k' m' tx' nm' ty' A' cap' l' w') (hk:ExK (w.heap.size+1) (some b2) w' x (.ex k m tx nm ty (.slice A l.length cap) l ⟨#[]⟩ 0)) :
 FolQ K w b2 s x k m tx nm ty A cap l ((((((((w'.setCell ⟨b2,0,none⟩ (.int .i64 k)).setCell ⟨b2,1,none⟩ (.int .i32 m)).setCell ⟨b2,2,none⟩ (.string tx)).setCell ⟨b2,3,none⟩ (.string nm)).setCell ⟨b2,4,none⟩ (.string ty)).setCell ⟨b2,5,none⟩ (.slice A l.length cap)).setCell ⟨b2,6,none⟩ (.string ⟨#[]⟩)).setCell ⟨b2,7,none⟩ (.int .i64 0)):=by
 have hg:=aaw w' b2 (.int .i64 k) (.int .i32 m) (.string tx) (.string nm) (.string ty) (.slice A l.length cap) (.string ⟨#[]⟩) (.int .i64 0)
 have h1:=h.2.2.2.2.1
 have h2:=h.2.2.2.2.2
 exact ⟨h.1.row hg (fun i e=>by injection e with e;omega) h2.1 h2.2,h.2.1.to_8 (.int .i64 k) (.int .i32 m) (.string tx) (.string nm) (.string ty) (.slice A l.length cap) (.string ⟨#[]⟩) (.int .i64 0),h.2.2.1.grown hg (by omega),hk.grown hg (.inr rfl),h.2.2.2.2⟩
end
theorem binary_top (N:Nat) (IH:∀ m,m < N→SpecUn m) (K:QC) (s:RS) (w:World) (h:Rq K s w) (hn:20 * s.len+6≤N):Calls Tryz.prog 65 #[.pointer (some ⟨K.c,0,none⟩),.int .i64 7] w (ExQ K w (RX (.joined 7) s)):=by
 obtain ⟨r,hr⟩:∃ r,RX .signed s=r:=⟨_,rfl⟩
 have hR:RX (.joined 7) s=([hdE r.1],r.2):=by rw [joined_top,hr]
 have hlt:=h.lt
 have hle0:=h.le
 obtain ⟨W1,hW1⟩:∃ W1,w.alloc (.cells #[.int .i64 0,.int .i32 0,.string ⟨#[]⟩,.string ⟨#[]⟩,.string ⟨#[]⟩,.slice none 0 0,.string ⟨#[]⟩,.int .i64 0] 35)=W1:=⟨_,rfl⟩
 have hb:Below w.heap.size w W1:=by rw [← hW1];exact (Below.refl _ w).alloc (Nat.le_refl _) _
 have hx:Bx W1 w.heap.size #[.int .i64 0,.int .i32 0,.string ⟨#[]⟩,.string ⟨#[]⟩,.string ⟨#[]⟩,.slice none 0 0,.string ⟨#[]⟩,.int .i64 0] 35:=by rw [← hW1];exact Bx.new _ _ _
 have hz:W1.heap.size=w.heap.size+1:=by rw [← hW1];simp
 have HC:Hid (Calls Tryz.prog 110 #[.pointer (some ⟨K.c,0,none⟩)] W1 (ExQ K W1 r)):=by
  have:=IH (20 * s.len+5) (by omega) K s W1 (h.below hb) (Nat.le_refl _)
  rw [hr] at this
  exact ke this
 rw [hR]
 clear hr hR IH h hn
 go_enter Tryz.func65,Tryz.ntmps65
 go_wp2_with fail
 clear hW1
 refine HC.out.mono ?_
 clear HC
 rintro e w2 ⟨x,y,rfl,hk,hbe,hm⟩
 obtain ⟨k,m,tx,nm,ty,A,cap,l,rfl,hs,hf,hbb⟩:=hk
 have HK:Hid (ExK W1.heap.size none w2 x (.ex k m tx nm ty (.slice A l.length cap) l ⟨#[]⟩ 0)):=⟨k,m,tx,nm,ty,A,cap,l,rfl,hs,hf,hbb⟩
 have hx2:Bx w2 w.heap.size _ _:=(hm.1.block _ hx.lt (by simp;omega)).trans hx
 obtain ⟨r0,r1,r2,r3,r4,r5,r6,r7⟩:=hx2.all_8
 have g0:=hx2.fro 0;have g1:=hx2.fro 1;have g2:=hx2.fro 2;have g3:=hx2.fro 3;have g4:=hx2.fro 4;have g5:=hx2.fro 5;have g6:=hx2.fro 6;have g7:=hx2.fro 7
 have hg:=aaw w2 w.heap.size (.int .i64 k) (.int .i32 m) (.string tx) (.string nm) (.string ty) (.slice A l.length cap) (.string ⟨#[]⟩) (.int .i64 0)
 have HM:=ke ((Tq.after hb hm).row hg (fun k e=>by injection e with e;omega) hlt hle0)
 have HK2:=ke ((HK.out.grown hg (.inl (by omega))).mono (show w.heap.size≤W1.heap.size by omega))
 have HX:=ke hx2
 have HBE:=ke hbe
 simp only [aab]
 clear hf hs hbb hm hx2 hg HK hx hb hbe
 go_wp2_with fail
 obtain ⟨z0,z1,z2,z3,z4,z5,z6,z7⟩:=(HX.out.to_8 (.int .i64 k) (.int .i32 m) (.string tx) (.string nm) (.string ty) (.slice A l.length cap) (.string ⟨#[]⟩) (.int .i64 0)).all_8
 (try simp only [Exit.inBlock,Exit.then])
 refine bodyPost_ret (v:=.agg #[.int .i64 k,.int .i32 m,.string tx,.string nm,.string ty,.slice A l.length cap,.string ⟨#[]⟩,.int .i64 0]) (by simp [results,Tryz.results65,go_sem,z0,z1,z2,z3,z4,z5,z6,z7]) rfl ?_
 exact ⟨_,_,rfl,HK2.out,HBE.out,HM.out⟩
end
section
open Go.RowKit
def lfOf (w:World) (c n:Nat):Nat:=match w.cell? ⟨c,3,none⟩ with|some (.int _ 0)=>n - atOf w c+1|_=>0
theorem Rq.lf {K:QC} {s:RS} {w:World} (h:Rq K s w):(s.wc=0→lfOf w K.c K.L.length=s.len+1)∧(s.wc≠0→lfOf w K.c K.L.length=0):=by
 refine ⟨fun h0=>?_,fun h0=>?_⟩
 ·have h1:=h.left h0
  obtain ⟨q,hm,hr⟩:=h
  have c3:=hm.cells.2.2.2.1
  rw [hr.bad,h0] at c3
  unfold lfOf
  rw [c3]
  simp only
  omega
 ·obtain ⟨q,hm,hr⟩:=h
  have c3:=hm.cells.2.2.2.1
  rw [hr.bad] at c3
  unfold lfOf
  rw [c3]
  split
  ·rename_i e;injection e with e;injection e with _ e;exact absurd e h0
  ·rfl
theorem tight_fx {s:RS} {K:QC} {q:QS} {w:World} (hm:Qm K q w) (hr:Rel K.L K.n q s) {t:ByteArray} (h:fxP s.ws[0]?=some t) (ht:1≤aat t):∃ x,K.L[q.k]?=some x∧s.wc=0∧x.k=4∧t=⟨x.t.toArray⟩:=by
 by_cases h0:s.wc=0
 ·rw [hr.word h0 0,Nat.add_zero] at h
  cases hx:K.L[q.k]? with
  | none=>rw [hx] at h;cases h
  | some x =>
   rw [hx,Option.map_some] at h
   have hw:=hm.2.1.1 x (List.mem_of_getElem? hx)
   obtain ⟨e,hk⟩:=fxP_level hw t h
   refine ⟨x,rfl,h0,?_,e⟩
   rcases hk with hk|hk
   ·exact hk
   ·have h1:=(hw.2.2.1 hk).1
    have:aat t=0:=by unfold aat;rw [e,ByteArray.toList_eq];exact tight_word h1
    omega
 ·rw [hr.noword h0 0] at h;cases h
theorem fx_of {x:Wd} (h:x.k=4):fxP (some (afr x))=some ⟨x.t.toArray⟩:=by
 unfold afr afo
 simp [h,fxP]
theorem binary_low (N:Nat) (IH:∀ m,m < N→SpecBi m) (K:QC) (s:RS) (w:World) (kk:Nat) (h:Rq K s w) (hk1:1≤kk) (hk6:kk≤6) (hn:20 * s.len+(13 - kk)≤N):Calls Tryz.prog 65 #[.pointer (some ⟨K.c,0,none⟩),.int .i64 kk] w (ExQ K w (RX (.joined kk) s)):=by
 obtain ⟨r,hr⟩:∃ r,RX (.joined ((kk:Int)+1)) s=r:=⟨_,rfl⟩
 obtain ⟨RR,hRR⟩:∃ RR,RX (.joined kk) s=RR:=⟨_,rfl⟩
 have hl1:r.2.len≤s.len:=by rw [← hr];exact ae2 _ _
 have hE:aim s.len kk (hdE r.1) r.2=RR:=by rw [← hr,← joined_level _ _ _ (Nat.le_refl _)];exact hRR
 have hlt:=h.lt
 have hle0:=h.le
 have hkI6:(kk:Int)≤6:=by omega
 have hkI1:(1:Int)≤kk:=by omega
 obtain ⟨W1,hW1⟩:∃ W1,w.alloc (.cells #[.int .i64 0,.int .i32 0,.string ⟨#[]⟩,.string ⟨#[]⟩,.string ⟨#[]⟩,.slice none 0 0,.string ⟨#[]⟩,.int .i64 0] 35)=W1:=⟨_,rfl⟩
 have hb:Below w.heap.size w W1:=by rw [← hW1];exact (Below.refl _ w).alloc (Nat.le_refl _) _
 have hx:Bx W1 w.heap.size #[.int .i64 0,.int .i32 0,.string ⟨#[]⟩,.string ⟨#[]⟩,.string ⟨#[]⟩,.slice none 0 0,.string ⟨#[]⟩,.int .i64 0] 35:=by rw [← hW1];exact Bx.new _ _ _
 have hz:W1.heap.size=w.heap.size+1:=by rw [← hW1];simp
 have HC:Hid (Calls Tryz.prog 65 #[.pointer (some ⟨K.c,0,none⟩),.int .i64 ((kk:Int)+1)] W1 (ExQ K W1 r)):=by
  have:=IH (20 * s.len+(13 - (kk+1))) (by omega) K s W1 (kk+1) (h.below hb) (by omega) (by omega) (Nat.le_refl _)
  simp only [Int.natCast_add,Int.natCast_one] at this
  rw [hr] at this
  exact ke this
 rw [hRR]
 have HE:=ke hE
 have HIH:=ke IH
 clear hr hRR hE IH h
 go_enter Tryz.func65,Tryz.ntmps65
 go_wp2_with fail
 clear hW1
 refine HC.out.mono ?_
 clear HC
 rintro e w2 ⟨x,y,rfl,hk,hbe,hm⟩
 have hs2:=hm.1.size
 have HK:=ke hk
 obtain ⟨k,m,tx,nm,ty,A,cap,l,rfl,_,_,_⟩:=hk
 have HF0:=ke (show FolQ K w w2.heap.size r.2 x k m tx nm ty A cap l (w2.alloc (.cells #[.int .i64 k,.int .i32 m,.string tx,.string nm,.string ty,.slice A l.length cap,.string ⟨#[]⟩,.int .i64 0] 35)) from
  ⟨(Tq.after hb hm).trans (Tq.below hm.2 ((Below.refl _ _).alloc (Nat.le_refl _) _)),Bx.new _ _ _,(Bx.grown hx hm.1 (by omega)).next ((Below.refl _ _).alloc (Nat.le_refl _) _),(ExK.excl HK.out ((Below.refl _ _).alloc (Nat.le_refl _) _) (Nat.le_refl _)).mono (by omega),by omega,hlt,hle0⟩)
 have HS:Hid (∃ z,FolQ K w w2.heap.size r.2 z k m tx nm ty A cap l (w2.alloc (.cells #[.int .i64 k,.int .i32 m,.string tx,.string nm,.string ty,.slice A l.length cap,.string ⟨#[]⟩,.int .i64 0] 35))∧(r.2.wc=0→r.2.len≤s.len∧aim s.len kk z r.2=RR)∧(r.2.wc≠0→FlS r.2 RR.2)):=by
  refine ke ?_
  by_cases h0:r.2.wc=0
  ·exact ⟨hdE r.1,HF0.out.as (hbe h0),fun _=>⟨hl1,HE.out⟩,fun e=>absurd h0 e⟩
  ·refine ⟨x,HF0.out,fun e=>absurd e h0,fun _=>?_⟩
   obtain ⟨q0,hm0,hr0⟩:=hm.2
   have hfb:=hr0.fb h0
   have:RR.2=r.2:=by
    rw [← HE.out,ad4 (fun t ht=>by rw [hfb.2] at ht;cases ht)]
   rw [this];exact FlS.refl hfb
 clear hm HK HF0 hx hb hbe
 simp only [aab]
 go_wp2_with fail
 go_loopw [6] (fun v6 wr=>∃ (m:Nat) (x:Nd) (s':RS) (k n':Int) (tx nm ty:ByteArray) (A:Option Addr) (cap:Nat) (l:List Nd),FolQ K w w2.heap.size s' x k n' tx nm ty A cap l wr∧s'.len≤s.len∧(s'.wc=0→s'.len≤m∧aim m kk x s'=RR)∧(s'.wc≠0→FlS s' RR.2)) (fun v6 wr=>lfOf wr K.c K.L.length)
 case atStart =>
  obtain ⟨z,h1,h2,h3⟩:=HS.out
  exact ⟨s.len,z,r.2,k,m,tx,nm,ty,A,cap,l,h1,hl1,h2,h3⟩
 case round =>
  obtain ⟨m,x,s',k,n',tx,nm,ty,A,cap,l,hf,hsl,hgood,hbad⟩:=hrel
  have HF:=ke hf
  have hlt2:w2.heap.size < wr.heap.size:=hf.2.1.lt
  have hb2:=hf.2.2.2.2.1
  obtain ⟨q,hm,hr⟩:=hf.1.2
  obtain ⟨c0,_,c2,_,_,_⟩:=hm.cells
  have hfew:=hm.few
  have HI:Hid (∀ w',Below wr.heap.size wr w'→Calls Tryz.prog 49 #[.pointer (some ⟨K.c,0,none⟩),.int .i64 0,.int .i64 4,.string ⟨#[]⟩] w' fun e w''=>e=.returned (.bool (isQ K.L q 0 4 ⟨#[]⟩))∧w'=w''):=ke fun w' hb=>ai3 (hm.below hb) 0 4 ⟨#[]⟩ (by omega) (by omega)
  by_cases hT:∃ xw,K.L[q.k]?=some xw∧s'.wc=0∧xw.k=4∧aat ⟨xw.t.toArray⟩=kk
  ·obtain ⟨xw,hxw,h0,hk4,htt⟩:=hT
   have hb0:q.bd=0:=by rw [hr.bad];exact h0
   have hi:isQ K.L q 0 4 ⟨#[]⟩=true:=by unfold isQ;rw [Nat.add_zero,hxw];simp [hb0,hk4]
   rw [hi] at HI
   have hwell:=hm.2.1.1 xw (List.mem_of_getElem? hxw)
   obtain ⟨t,ht⟩:∃ t:ByteArray,(⟨xw.t.toArray⟩:ByteArray)=t:=⟨_,rfl⟩
   have htl:t.data.toList=xw.t:=by rw [← ht]
   have htx:t.size≤maxLen:=by
    have h5:=hwell.2.2.2.2
    have e:t.data.toList.length=t.size:=by simp
    rw [htl] at e
    unfold maxLen;omega
   have hfx:fxP s'.ws[0]?=some t:=by rw [hr.word h0 0,Nat.add_zero,hxw,← ht];exact fx_of hk4
   rw [ht] at htt
   obtain ⟨r2,hr2⟩:∃ r2,RX (.joined ((kk:Int)+1)) s'.skip=r2:=⟨_,rfl⟩
   have h1:1≤s'.len:=ahj hfx
   have h2:=aaf s'
   have h3:r2.2.len≤s'.skip.len:=by rw [← hr2];exact ae2 _ _
   obtain ⟨hsm,hrun⟩:=hgood h0
   obtain ⟨m,rfl⟩:∃ m',m=m'+1:=⟨m - 1,by omega⟩
   have hrun2:aim m kk (mkE 17 0 E0 t E0 [x,hdE r2.1]) r2.2=RR:=by
    rw [aim,hfx] at hrun
    simp only [htt,if_true,hr2] at hrun
    exact hrun
   have HX:Hid (∀ w',Rq K s'.skip w'→Calls Tryz.prog 65 #[.pointer (some ⟨K.c,0,none⟩),.int .i64 ((kk:Int)+1)] w' (ExQ K w' r2)):=by
    show ∀ w',_
    intro w' h'
    have:=HIH.out (20 * s'.skip.len+(13 - (kk+1))) (by omega) K s'.skip w' (kk+1) h' (by omega) (by omega) (Nat.le_refl _)
    simp only [Int.natCast_add,Int.natCast_one] at this
    rw [hr2] at this;exact this
   have HL:Hid (∀ w',Calls Tryz.prog 111 #[.string t] w' fun e w''=>e=.returned (.int .i64 kk)∧w'=w''):=ke fun w'=>by rw [← htt];exact level_any w' _
   have hlf:=hf.1.2.lf.1 h0
   have hkq:=(List.getElem?_eq_some_iff.1 hxw).1
   have hl:(q.k:Int) < K.L.length:=by omega
   have hz:(0:Int)≤q.k:=by omega
   have hq8:(q.k:Int)≤8000:=by omega
   have HMQ:=ke hm
   have HSK:=ke (hr.skip h0 hkq)
   have HRUN:=ke hrun2
   obtain ⟨g,o,hA,d0,d1,d2⟩:=hm.word hxw
   rw [hA] at c0
   rw [ht] at d1
   clear hgood hbad hm hr hf hi hrun hrun2 hr2 hfx hwell htl
   go_wp2_with fail
   go_quiet (first|(go_at_call 49;exact Calls.quiet_of_same ((HI.out _ (by first|exact Below.refl _ _|exact below_drewN (Below.refl _ _) _)).mono fun e w' hh=>⟨hh.1,hh.2.symm⟩))|(go_at_call 111;exact Calls.quiet_of_same ((HL.out _).mono fun e w' hh=>⟨hh.1,hh.2.symm⟩)))
   go_wp2_with fail
   refine aak (F:=fun W=>FolQ K w w2.heap.size s' x k n' tx nm ty A cap l W∧Qm K q W) ⟨HF.out.below (below_drewN (Below.refl _ _) nq),HMQ.out.below (below_drewN (Below.refl _ _) nq)⟩ ?_
   rintro W2 ⟨hF2,hM2⟩
   have HF2:=ke hF2
   have HM2:=ke hM2
   clear c0 c2 d0 d1 d2 HF HMQ
   obtain ⟨c0,_,c2,_,_,_⟩:=hM2.cells
   obtain ⟨g,o,hA,d0,d1,d2⟩:=hM2.word hxw
   have f2:=hM2.2.2.2.fro 2
   rw [hA] at c0
   rw [ht] at d1
   clear hF2 hM2 hA
   go_quiet (fail)
   have hst:=(HM2.out.below (below_drewN (Below.refl _ _) nq)).step hkq
   simp only [Int.natCast_add,Int.natCast_one] at hst
   have HF3:=ke ((HF2.out.below (below_drewN (Below.refl _ _) nq)).move (Tq.of hst HSK.out))
   clear hst
   go_upto_region 7 with fail
   refine aak (F:=fun W=>FolQ K w w2.heap.size s'.skip x k n' tx nm ty A cap l W) HF3.out ?_
   rintro W3 hF3
   have HFD:=ke hF3
   have hlt3:w2.heap.size < W3.heap.size:=hF3.2.1.lt
   clear hF3 HF3 HF2 HM2 c0 c2 d0 d1 d2 f2
   go_upto_region 8 with (go_at_call 65;refine (HX.out _ HFD.out.1.2).mono ?_;rintro e w4 ⟨xz,y,rfl,hk,hbe,hm4⟩;have HF4:=ke (HFD.out.move hm4);have HZ:=ke (hk.past (show w2.heap.size < _ from hlt3) (show w.heap.size+1≤_ by omega));have HBZ:=ke hk.bare;have HBE:=ke hbe;obtain ⟨zk,zn,ztx,znm,zty,zA,zc,zl,rfl,_,_,_⟩:=hk;have hlt4:=HF4.out.2.1.lt;clear hm4 hbe;simp only [aab])
   obtain ⟨zz,hzz,hzq⟩:∃ zz,aaq xz=aaq zz∧(r2.2.wc=0→zz=hdE r2.1):=by
    by_cases e:r2.2.wc=0
    ·exact ⟨_,HBE.out e,fun _=>rfl⟩
    ·exact ⟨xz,rfl,fun h=>absurd h e⟩
   have hbz:=HBZ.out.trans hzz
   have hb5:Below w4.heap.size w4 (w4.alloc (.cells #[.int .i64 zk,.int .i32 zn,.string ztx,.string znm,.string zty,.slice zA zl.length zc,.string ⟨#[]⟩,.int .i64 0] 35)):=(Below.refl _ _).alloc (Nat.le_refl _) _
   refine aak (F:=fun W=>FolQ K w w2.heap.size r2.2 x k n' tx nm ty A cap l W∧Bx W w4.heap.size #[.int .i64 zk,.int .i32 zn,.string ztx,.string znm,.string zty,.slice zA zl.length zc,.string ⟨#[]⟩,.int .i64 0] 35∧ExK (w.heap.size+1) (some w2.heap.size) W zz (Nd.ex zk zn ztx znm zty (.slice zA zl.length zc) zl ⟨#[]⟩ 0)) ⟨HF4.out.below hb5,Bx.new _ _ _,(HZ.out.below hb5).as hzz⟩ ?_
   rintro W5 ⟨hF5,hB5,hZ5⟩
   have HF5:=ke hF5
   have hlt5:=hF5.2.1.lt
   obtain ⟨W6,hW6⟩:∃ W6,W5.alloc (.cells #[.int .i64 k,.int .i32 n',.string tx,.string nm,.string ty,.slice A l.length cap,.string ⟨#[]⟩,.int .i64 0,.int .i64 zk,.int .i32 zn,.string ztx,.string znm,.string zty,.slice zA zl.length zc,.string ⟨#[]⟩,.int .i64 0] 35)=W6:=⟨_,rfl⟩
   have hb6:Below W5.heap.size W5 W6:=by rw [← hW6];exact (Below.refl _ _).alloc (Nat.le_refl _) _
   have HO5:=ke (OwnR.two hF5.2.2.2.1 hZ5 (by omega))
   simp only [aab,List.cons_append,List.nil_append] at HO5
   rw [hW6] at HO5
   have HF6:=ke (HF5.out.below hb6)
   obtain ⟨p0,p1,p2,p3,p4,p5,p6,p7⟩:=hF5.2.1.all_8
   obtain ⟨b0,b1,b2,b3,b4,b5,b6,b7⟩:=hB5.all_8
   obtain ⟨s0,s1,s2,s3,s4,s5,s6,s7⟩:=HF6.out.2.1.all_8
   have g0:=HF6.out.2.1.fro 0;have g1:=HF6.out.2.1.fro 1;have g2:=HF6.out.2.1.fro 2;have g3:=HF6.out.2.1.fro 3;have g4:=HF6.out.2.1.fro 4;have g5:=HF6.out.2.1.fro 5;have g6:=HF6.out.2.1.fro 6;have g7:=HF6.out.2.1.fro 7
   have HK6:Hid (aaq (mkE 17 0 E0 t E0 [x,zz])=.ex 17 0 ⟨#[]⟩ t ⟨#[]⟩ (.slice none 0 0) (aai [Nd.ex k n' tx nm ty (.slice A l.length cap) l ⟨#[]⟩ 0,Nd.ex zk zn ztx znm zty (.slice zA zl.length zc) zl ⟨#[]⟩ 0]) ⟨#[]⟩ 0):=ke (ab4 (by simp only [aai];rw [HF5.out.2.2.2.1.bare,hbz]) _ _ _ _ _)
   have hn4:∀ g,some w2.heap.size=some g→(Value.slice (some ⟨W5.heap.size,0,none⟩) 2 2).ownBlock≠some g:=by intro g hg;injection hg with hg;subst hg;simp only [Value.ownBlock,ne_eq,Option.some.injEq];omega
   have hszz:(⟨#[]⟩:ByteArray).size≤maxLen∧t.size≤maxLen∧(⟨#[]⟩:ByteArray).size≤maxLen:=⟨Nat.zero_le _,htx,Nat.zero_le _⟩
   clear hF5 hB5 hZ5 hb5 hbz hb6 HF4 HZ HBZ HFD HL HI
   go_wp2_with fail
   have hk6:=HO5.out.node hn4 17 0 ⟨#[]⟩ t ⟨#[]⟩ hszz HK6.out
   have HF7:=ke (HF6.out.put (l:=[_,_]) hk6)
   go_roundw
   case rel =>
    by_cases e:r2.2.wc=0
    ·refine ⟨m,_,_,_,_,_,_,_,_,_,_,HF7.out,by omega,fun _=>⟨by omega,?_⟩,fun e2=>absurd e e2⟩
     rw [hzq e];exact HRUN.out
    ·refine ⟨m,_,_,_,_,_,_,_,_,_,_,HF7.out,by omega,fun e2=>absurd e2 e,fun _=>?_⟩
     obtain ⟨q6,hm6,hr6⟩:=HF7.out.1.2
     have hfb:=hr6.fb e
     have:RR.2=r2.2:=by rw [← HRUN.out,ad4 (fun t ht=>by rw [hfb.2] at ht;cases ht)]
     rw [this];exact FlS.refl hfb
   case measure =>
    rw [hlf]
    by_cases e:r2.2.wc=0
    ·exact Nat.lt_of_le_of_lt (Nat.le_of_eq (HF7.out.1.2.lf.1 e)) (by omega)
    ·exact Nat.lt_of_le_of_lt (Nat.le_of_eq (HF7.out.1.2.lf.2 e)) (by omega)
  ·have hstop:s'.wc=0→RR=([x],s'):=fun h0=>by
    obtain ⟨_,h2⟩:=hgood h0
    rw [← h2]
    refine ad4 (fun t ht e=>hT ?_) m x
    obtain ⟨xw,h3,h4,h5,h6⟩:=tight_fx hm hr ht (by omega)
    exact ⟨xw,h3,h4,h5,by rw [← h6];exact e⟩
   have HEX:Hid (∀ w',∀ y,ExK w.heap.size none w' x y→∃ x',ExK w.heap.size none w' x' y∧(RR.2.wc=0→aaq x'=aaq (hdE RR.1))):=by
    refine ke fun w' y hy=>⟨x,hy,fun e=>?_⟩
    by_cases h0:s'.wc=0
    ·rw [hstop h0];rfl
    ·have:=(hbad h0).1
     rw [this] at e;exact absurd e h0
   have HTQ:Hid (∀ w',Tq K s' w w'→Tq K RR.2 w w'):=by
    refine ke fun w' hq=>?_
    by_cases h0:s'.wc=0
    ·rw [hstop h0];exact hq
    ·obtain ⟨hg,q1,hm1,hr1⟩:=hq
     exact ⟨hg,q1,hm1,hr1.fl (hr.fb h0) (hbad h0)⟩
   have hx2:=hf.2.2.1
   obtain ⟨r0,r1,r2,r3,r4,r5,r6,r7⟩:=hx2.all_8
   have g0:=hx2.fro 0;have g1:=hx2.fro 1;have g2:=hx2.fro 2;have g3:=hx2.fro 3;have g4:=hx2.fro 4;have g5:=hx2.fro 5;have g6:=hx2.fro 6;have g7:=hx2.fro 7
   obtain ⟨a0,a1,a2,a3,a4,a5,a6,a7⟩:=hf.2.1.all_8
   clear hx2
   cases hi:isQ K.L q 0 4 ⟨#[]⟩ with
   | false =>
    rw [hi] at HI
    clear hT hstop hgood hbad hm hr hf hi
    go_wp2_with fail
    go_quiet ((go_at_call 49;exact Calls.quiet_of_same ((HI.out _ (by first|exact Below.refl _ _|exact below_drewN (Below.refl _ _) _)).mono fun e w' hh=>⟨hh.1,hh.2.symm⟩)))
    have HF3:=ke (HF.out.below (below_drewN (Below.refl _ _) nq))
    have HG:=ke (aaw (wr.drewN nq) w.heap.size (.int .i64 k) (.int .i32 n') (.string tx) (.string nm) (.string ty) (.slice A l.length cap) (.string ⟨#[]⟩) (.int .i64 0))
    go_wp2_with fail
    obtain ⟨z0,z1,z2,z3,z4,z5,z6,z7⟩:=(HF3.out.2.2.1.to_8 (.int .i64 k) (.int .i32 n') (.string tx) (.string nm) (.string ty) (.slice A l.length cap) (.string ⟨#[]⟩) (.int .i64 0)).all_8
    (try simp only [Exit.inBlock,Exit.then])
    refine bodyPost_ret (v:=.agg #[.int .i64 k,.int .i32 n',.string tx,.string nm,.string ty,.slice A l.length cap,.string ⟨#[]⟩,.int .i64 0]) (by simp [results,Tryz.results65,go_sem,z0,z1,z2,z3,z4,z5,z6,z7]) rfl ?_
    obtain ⟨x',hx',he'⟩:=HEX.out _ _ ((HF3.out.2.2.2.1.free.grown HG.out (.inl (by omega))).mono (by omega))
    exact ⟨_,_,rfl,hx',he',HTQ.out _ (HF3.out.1.row HG.out (fun k e=>by injection e with e;omega) hlt hle0)⟩
   | true =>
    obtain ⟨xw,hxw,hb0,hk4⟩:∃ x,K.L[q.k]?=some x∧q.bd=0∧x.k=4:=by
     unfold isQ at hi
     rw [Nat.add_zero] at hi
     cases hx:K.L[q.k]? with
     | none=>rw [hx] at hi;simp at hi
     | some x=>rw [hx] at hi;simp at hi;exact ⟨x,rfl,hi.1,hi.2⟩
    have h0:s'.wc=0:=by rw [← hr.bad];exact hb0
    obtain ⟨tt,htt⟩:∃ tt,aat ⟨xw.t.toArray⟩=tt:=⟨_,rfl⟩
    have hne:¬ tt=(kk:Int):=fun e=>hT ⟨xw,hxw,h0,hk4,htt.trans e⟩
    have hd:decide (tt=(kk:Int))=false:=decide_eq_false hne
    have hq0:(tt == (kk:Int))=false:=by simpa using hne
    have HL:Hid (∀ w',Calls Tryz.prog 111 #[.string ⟨xw.t.toArray⟩] w' fun e w''=>e=.returned (.int .i64 tt)∧w'=w''):=ke fun w'=>by rw [← htt];exact level_any w' _
    obtain ⟨g,o,hA,d0,d1,d2⟩:=hm.word hxw
    rw [hA] at c0
    have hkq:=(List.getElem?_eq_some_iff.1 hxw).1
    have hl:(q.k:Int) < K.L.length:=by omega
    have hz:(0:Int)≤q.k:=by omega
    rw [hi] at HI
    clear hT hstop hgood hbad hm hr hf hi hxw hA htt hne
    go_wp2_with fail
    go_quiet (first|(go_at_call 49;exact Calls.quiet_of_same ((HI.out _ (by first|exact Below.refl _ _|exact below_drewN (Below.refl _ _) _)).mono fun e w' hh=>⟨hh.1,hh.2.symm⟩))|(go_at_call 111;exact Calls.quiet_of_same ((HL.out _).mono fun e w' hh=>⟨hh.1,hh.2.symm⟩)))
    have HF3:=ke (HF.out.below (below_drewN (Below.refl _ _) nq))
    have HG:=ke (aaw (wr.drewN nq) w.heap.size (.int .i64 k) (.int .i32 n') (.string tx) (.string nm) (.string ty) (.slice A l.length cap) (.string ⟨#[]⟩) (.int .i64 0))
    go_wp2_with fail
    obtain ⟨z0,z1,z2,z3,z4,z5,z6,z7⟩:=(HF3.out.2.2.1.to_8 (.int .i64 k) (.int .i32 n') (.string tx) (.string nm) (.string ty) (.slice A l.length cap) (.string ⟨#[]⟩) (.int .i64 0)).all_8
    (try simp only [Exit.inBlock,Exit.then])
    refine bodyPost_ret (v:=.agg #[.int .i64 k,.int .i32 n',.string tx,.string nm,.string ty,.slice A l.length cap,.string ⟨#[]⟩,.int .i64 0]) (by simp [results,Tryz.results65,go_sem,z0,z1,z2,z3,z4,z5,z6,z7]) rfl ?_
    obtain ⟨x',hx',he'⟩:=HEX.out _ _ ((HF3.out.2.2.2.1.free.grown HG.out (.inl (by omega))).mono (by omega))
    exact ⟨_,_,rfl,hx',he',HTQ.out _ (HF3.out.1.row HG.out (fun k e=>by injection e with e;omega) hlt hle0)⟩
end
section
open Go.RowKit
def BhQ (K:QC) (B:Nat) (w:World) (r:List Nd×RS) (e:Ending) (w':World):Prop:=∃ x y,e=.returned (.agg (aab y).toArray)∧ExK B none w' x y∧(r.2.wc=0→aaq x=aaq (hdE r.1))∧Tq K r.2 w w'
def SpecBh (N:Nat):Prop:=∀ (K:QC) (s:RS) (w:World) (B:Nat) (x y:Nd),Rq K s w→ExK B none w x y→K.c < B→K.W0.heap.size≤B→B≤w.heap.size→20 * s.len+4≤N→Calls Tryz.prog 144 #[.pointer (some ⟨K.c,0,none⟩),.agg (aab y).toArray] w (BhQ K B w (RX (.loopF x) s))
theorem aec {s:RS} (h:Fb s) (e:Nd):RX (.loopF e) s=([e],s):=by
 rw [aib];simp only [h.sees,Bool.false_eq_true,if_false]
theorem unary_none (N:Nat) (IHt:∀ m,m < N→SpecTo m) (IHb:∀ m,m < N→SpecBh m) (K:QC) (s:RS) (w:World) (h:Rq K s w) (hn:20 * s.len+5≤N) (e1:s.sees 0 abh=false) (e2:s.sees 0 aig=false) (e3:s.sees 0 aj5=false):Calls Tryz.prog 110 #[.pointer (some ⟨K.c,0,none⟩)] w (ExQ K w (RX .signed s)):=by
 obtain ⟨r,hr⟩:∃ r,RX .atom s=r:=⟨_,rfl⟩
 obtain ⟨RR,hRR⟩:∃ RR,RX (.loopF (hdE r.1)) r.2=RR:=⟨_,rfl⟩
 have hR:RX .signed s=RR:=by
  have:acz s=none:=by unfold acz;rw [e1,e2,e3];simp
  rw [RX_signed,this];simp only;rw [RX_followed,hr,hRR]
 have hl1:r.2.len≤s.len:=by rw [← hr];exact ae2 _ _
 have hlt:=h.lt
 have hle0:=h.le
 obtain ⟨W1,hW1⟩:∃ W1,w.alloc (.cells #[.int .i64 0,.int .i32 0,.string ⟨#[]⟩,.string ⟨#[]⟩,.string ⟨#[]⟩,.slice none 0 0,.string ⟨#[]⟩,.int .i64 0] 35)=W1:=⟨_,rfl⟩
 have hb:Below w.heap.size w W1:=by rw [← hW1];exact (Below.refl _ w).alloc (Nat.le_refl _) _
 have hx:Bx W1 w.heap.size #[.int .i64 0,.int .i32 0,.string ⟨#[]⟩,.string ⟨#[]⟩,.string ⟨#[]⟩,.slice none 0 0,.string ⟨#[]⟩,.int .i64 0] 35:=by rw [← hW1];exact Bx.new _ _ _
 have hz:W1.heap.size=w.heap.size+1:=by rw [← hW1];simp
 have HS1:=ke (aa9 (h.below hb) akk (by decide))
 have HS2:=ke (aa9 (h.below hb) fx_not (by decide))
 have HS3:=ke (aa9 (h.below hb) fx_len (by decide))
 rw [e1] at HS1
 rw [e2] at HS2
 rw [e3] at HS3
 have HC:Hid (Calls Tryz.prog 145 #[.pointer (some ⟨K.c,0,none⟩)] W1 (ExQ K W1 r)):=by
  have:=IHt (20 * s.len+3) (by omega) K s W1 (h.below hb) (Nat.le_refl _)
  rw [hr] at this
  exact ke this
 have HIH:=ke IHb
 have HRR:=ke hRR
 rw [hR]
 clear hr hR hRR IHt IHb h e1 e2 e3
 go_enter Tryz.func110,Tryz.ntmps110
 go_wp2_with (first
  | (go_at_call 22;first|(refine HS1.out.mono ?_;rintro e w1 ⟨rfl,rfl⟩)|(refine HS2.out.mono ?_;rintro e w1 ⟨rfl,rfl⟩)|(refine HS3.out.mono ?_;rintro e w1 ⟨rfl,rfl⟩))
  | (go_at_call 145;clear hW1;refine HC.out.mono ?_;clear HC;rintro e w2 ⟨x,y,rfl,hk,hbe,hm⟩;have HK:=ke hk;have HBE:=ke hbe;have HM:=ke hm;obtain ⟨k,m,tx,nm,ty,A,cap,l,rfl,_,_,_⟩:=hk;clear hm hbe;simp only [aab]))
 obtain ⟨zz,hzz,hzq⟩:∃ zz,aaq x=aaq zz∧(r.2.wc=0→zz=hdE r.1):=by
  by_cases e:r.2.wc=0
  ·exact ⟨_,HBE.out e,fun _=>rfl⟩
  ·exact ⟨x,rfl,fun h=>absurd h e⟩
 obtain ⟨RB,hRBe⟩:∃ RB,RX (.loopF zz) r.2=RB:=⟨_,rfl⟩
 have hRB:RB.2=RR.2∧(RR.2.wc=0→RB=RR):=by
  by_cases e:r.2.wc=0
  ·rw [← hRBe,hzq e,HRR.out];exact ⟨rfl,fun _=>rfl⟩
  ·obtain ⟨q2,hm2,hr2⟩:=HM.out.2
   have hfb:=hr2.fb e
   have e1:RR.2=r.2:=by rw [← HRR.out,aec hfb]
   rw [← hRBe,aec hfb]
   exact ⟨e1.symm,fun e0=>absurd (by rw [← e1];exact e0) e⟩
 have hb2:=HM.out.1.size
 have HB0:=ke (HIH.out (20 * r.2.len+4) (by omega) K r.2 w2 W1.heap.size zz _ HM.out.2 (HK.out.as hzz) (by omega) (by omega) hb2 (Nat.le_refl _))
 rw [hRBe] at HB0
 simp only [aab] at HB0
 refine HB0.out.mono ?_
 clear HB0 HIH HBE hzz hzq HRR hRBe HK
 rintro e w3 ⟨x3,y3,rfl,hk3,hbe3,hm3⟩
 have HBE:Hid (RR.2.wc=0→aaq x3=aaq (hdE RR.1)):=ke fun e=>by rw [← hRB.2 e];exact hbe3 (by rw [hRB.2 e];exact e)
 rw [hRB.1] at hm3
 have hm:=HM.out.trans hm3
 obtain ⟨k3,m3,tx3,nm3,ty3,A3,cap3,l3,rfl,hs3,hf3,hbb3⟩:=hk3
 have HK:Hid (ExK W1.heap.size none w3 x3 (.ex k3 m3 tx3 nm3 ty3 (.slice A3 l3.length cap3) l3 ⟨#[]⟩ 0)):=⟨k3,m3,tx3,nm3,ty3,A3,cap3,l3,rfl,hs3,hf3,hbb3⟩
 have hx2:Bx w3 w.heap.size _ _:=(hm.1.block _ hx.lt (by simp;omega)).trans hx
 obtain ⟨r0,r1,r2,r3,r4,r5,r6,r7⟩:=hx2.all_8
 have g0:=hx2.fro 0;have g1:=hx2.fro 1;have g2:=hx2.fro 2;have g3:=hx2.fro 3;have g4:=hx2.fro 4;have g5:=hx2.fro 5;have g6:=hx2.fro 6;have g7:=hx2.fro 7
 have hg:=aaw w3 w.heap.size (.int .i64 k3) (.int .i32 m3) (.string tx3) (.string nm3) (.string ty3) (.slice A3 l3.length cap3) (.string ⟨#[]⟩) (.int .i64 0)
 have HM3:=ke ((Tq.after hb hm).row hg (fun k e=>by injection e with e;omega) hlt hle0)
 have HK2:=ke ((HK.out.grown hg (.inl (by omega))).mono (show w.heap.size≤W1.heap.size by omega))
 have HX:=ke hx2
 simp only [aab]
 clear hf3 hs3 hbb3 hm hx2 hg HK hx hb hm3 hbe3 hRB HM HS1 HS2 HS3
 go_wp2_with fail
 obtain ⟨z0,z1,z2,z3,z4,z5,z6,z7⟩:=(HX.out.to_8 (.int .i64 k3) (.int .i32 m3) (.string tx3) (.string nm3) (.string ty3) (.slice A3 l3.length cap3) (.string ⟨#[]⟩) (.int .i64 0)).all_8
 (try simp only [Exit.inBlock,Exit.then])
 refine bodyPost_ret (v:=.agg #[.int .i64 k3,.int .i32 m3,.string tx3,.string nm3,.string ty3,.slice A3 l3.length cap3,.string ⟨#[]⟩,.int .i64 0]) (by simp [results,Tryz.results110,go_sem,z0,z1,z2,z3,z4,z5,z6,z7]) rfl ?_
 exact ⟨_,_,rfl,HK2.out,HBE.out,HM3.out⟩
end
section
open Go.RowKit
theorem sees_word {K:QC} {q:QS} {s:RS} {w:World} (h:Qm K q w) (hr:Rel K.L K.n q s) {p:ByteArray} (hp:ajh p) (hs:s.sees 0 p=true):∃ x,K.L[q.k]?=some x∧(⟨x.t.toArray⟩:ByteArray)=p:=by
 rw [hr.sees h.2.1.1 0 hp] at hs
 unfold seesQ at hs
 rw [Nat.add_zero,Bool.and_eq_true] at hs
 obtain ⟨_,hs⟩:=hs
 cases hx:K.L[q.k]? with
 | none=>rw [hx] at hs;simp at hs
 | some x =>
  rw [hx] at hs
  simp only [fxW,Bool.and_eq_true,beq_iff_eq] at hs
  exact ⟨x,rfl,by rw [hs.2]⟩
theorem noEQ (B:Nat) (r:Option Nat) (w:World):ExK B r w noE noE:=by
 refine ⟨0,0,⟨#[]⟩,⟨#[]⟩,⟨#[]⟩,none,0,[],rfl,?_,fun ws _=>(FkL.nil B ws .ex).now,rfl⟩
 unfold maxLen;exact ⟨by decide,by decide,by decide⟩
theorem unary_no (K:QC) (s:RS) (w:World) (h:Rq K s w) (p:ByteArray) (hs:s.sees 0 p=true) (hfp:ajh p) (hsg:acz s=some p) (h41:s.op=41) (hc:s.sees 0 abh=true∨(s.sees 0 abh=false∧s.sees 0 aig=true)∨(s.sees 0 abh=false∧s.sees 0 aig=false∧s.sees 0 aj5=true)):Calls Tryz.prog 110 #[.pointer (some ⟨K.c,0,none⟩)] w (ExQ K w (RX .signed s)):=by
 obtain ⟨RA,hRA⟩:∃ R,RX .signed s=R:=⟨_,rfl⟩
 have he:s.enter p=(s.fail 4).inc:=by
  rcases ab5 s p with ⟨a,_⟩|⟨_,_,b⟩|⟨_,b,_⟩
  ·rw [hs] at a;cases a
  ·exact b
  ·exact absurd h41 b
 have hfl:FlS (s.fail 4) RA.2:=by
  rw [← hRA,RX_signed,hsg]
  simp only
  rw [he]
  have f0:=ahl s (c:=4) (by decide)
  have f1:=f0.inc
  have f2:=RX_bad .signed (f1.fb f0)
  have f3:=f1.trans f2
  exact f3.trans (Fb.dec (f3.fb f0))
 have hbad:RA.2.wc≠0:=by rw [hfl.1];exact abt s (by decide)
 rw [hRA]
 have hlt:=h.lt
 have hle0:=h.le
 obtain ⟨W1,hW1⟩:∃ W1,w.alloc (.cells #[.int .i64 0,.int .i32 0,.string ⟨#[]⟩,.string ⟨#[]⟩,.string ⟨#[]⟩,.slice none 0 0,.string ⟨#[]⟩,.int .i64 0] 35)=W1:=⟨_,rfl⟩
 have hb:Below w.heap.size w W1:=by rw [← hW1];exact (Below.refl _ w).alloc (Nat.le_refl _) _
 have hx:Bx W1 w.heap.size #[.int .i64 0,.int .i32 0,.string ⟨#[]⟩,.string ⟨#[]⟩,.string ⟨#[]⟩,.slice none 0 0,.string ⟨#[]⟩,.int .i64 0] 35:=by rw [← hW1];exact Bx.new _ _ _
 have hz:W1.heap.size=w.heap.size+1:=by rw [← hW1];simp
 have HS1:=ke (aa9 (h.below hb) akk (by decide))
 have HS2:=ke (aa9 (h.below hb) fx_not (by decide))
 have HS3:=ke (aa9 (h.below hb) fx_len (by decide))
 obtain ⟨q,hm,hr⟩:=h
 obtain ⟨xw,hxw,hxt⟩:=sees_word hm hr hfp hs
 obtain ⟨c0,_,c2,_,_,_⟩:=(hm.below hb).cells
 obtain ⟨g,o,hA,d0,d1,d2⟩:=(hm.below hb).word hxw
 rw [hA] at c0
 rw [hxt] at d1
 have hkq:=(List.getElem?_eq_some_iff.1 hxw).1
 have hfew:=hm.few
 have hl:(q.k:Int) < K.L.length:=by omega
 have hz0:(0:Int)≤q.k:=by omega
 have hq8:(q.k:Int)≤8000:=by omega
 have h0:=(aea hm hr hfp hs).1
 have hdp:40 < q.dp:=by rw [(hr.2.2.1 h0).2.2.1,h41];decide
 have HO:Hid (∀ w',Below w.heap.size w w'→Calls Tryz.prog 87 #[.pointer (some ⟨K.c,0,none⟩)] w' fun e w''=>e=.returned (.bool false)∧Mq K (q.fail K.L K.n 4) w' w''):=ke fun w' hb=>open_no (hm.below hb) hdp
 have HRL:=ke hr
 have HFL:=ke hfl
 have HBAD:=ke hbad
 clear hm hr hRA hs he hfl hbad hdp h0 hA hxw hsg hfp
 rcases hc with e1|⟨e1,e2⟩|⟨e1,e2,e3⟩
 all_goals
  (try rw [e1] at HS1)
  (try rw [e2] at HS2)
  (try rw [e3] at HS3)
  go_enter Tryz.func110,Tryz.ntmps110
  go_upto_region 2 with (go_at_call 22;first|(refine HS1.out.mono ?_;rintro e w1 ⟨rfl,rfl⟩)|(refine HS2.out.mono ?_;rintro e w1 ⟨rfl,rfl⟩)|(refine HS3.out.mono ?_;rintro e w1 ⟨rfl,rfl⟩))
  go_quiet (fail)
  go_upto_region 3 with fail
  refine aak (F:=fun W=>Below w.heap.size w W∧Bx W w.heap.size #[.int .i64 0,.int .i32 0,.string ⟨#[]⟩,.string ⟨#[]⟩,.string ⟨#[]⟩,.slice none 0 0,.string ⟨#[]⟩,.int .i64 0] 35) ⟨hb.trans ((below_drewN (Below.refl _ _) nq).mono hb.size),hx.next (below_drewN (Below.refl _ _) nq)⟩ ?_
  rintro W2 ⟨hb2,hx2⟩
  have HO2:=ke (HO.out _ hb2)
  have HB2:=ke hb2
  have HX2:=ke hx2
  clear c0 c2 d0 d1 d2 hb hx HS1 HS2 HS3 HO hb2 hx2 hW1 hz
  go_wp2_with (go_at_call 87;refine HO2.out.mono ?_;rintro e w3 ⟨rfl,ht⟩;have HT2:=ke ht;have hx3:Bx w3 w.heap.size _ _:=(ht.1.block _ HX2.out.lt (by simp;omega)).trans HX2.out;have HX3:=ke hx3;obtain ⟨r0,r1,r2,r3,r4,r5,r6,r7⟩:=hx3.all_8;have g0:=hx3.fro 0;have g1:=hx3.fro 1;have g2:=hx3.fro 2;have g3:=hx3.fro 3;have g4:=hx3.fro 4;have g5:=hx3.fro 5;have g6:=hx3.fro 6;have g7:=hx3.fro 7;clear ht hx3)
  obtain ⟨z0,z1,z2,z3,z4,z5,z6,z7⟩:=(HX3.out.to_8 (.int .i64 0) (.int .i32 0) (.string ⟨#[]⟩) (.string ⟨#[]⟩) (.string ⟨#[]⟩) (.slice none 0 0) (.string ⟨#[]⟩) (.int .i64 0)).all_8
  (try simp only [Exit.inBlock,Exit.then])
  refine bodyPost_ret (v:=.agg #[.int .i64 0,.int .i32 0,.string ⟨#[]⟩,.string ⟨#[]⟩,.string ⟨#[]⟩,.slice none 0 0,.string ⟨#[]⟩,.int .i64 0]) (by simp [results,Tryz.results110,go_sem,z0,z1,z2,z3,z4,z5,z6,z7]) rfl ?_
  have hg:=aaw w3 w.heap.size (.int .i64 0) (.int .i32 0) (.string ⟨#[]⟩) (.string ⟨#[]⟩) (.string ⟨#[]⟩) (.slice none 0 0) (.string ⟨#[]⟩) (.int .i64 0)
  exact ⟨noE,noE,rfl,noEQ _ _ _,fun e=>absurd e HBAD.out,(Tq.after HB2.out (Tq.of HT2.out ((HRL.out.fail (by decide)).fl (ahl s (by decide)) HFL.out))).row hg (fun k e=>by injection e with e;omega) hlt hle0⟩
end
section
open Go.RowKit
theorem unary_yes (N:Nat) (IH:∀ m,m < N→SpecUn m) (K:QC) (s:RS) (w:World) (h:Rq K s w) (hn:20 * s.len+5≤N) (p:ByteArray) (hs:s.sees 0 p=true) (hfp:ajh p) (hpz:p.size≤maxLen) (hsg:acz s=some p) (h41:s.op≠41) (hc:s.sees 0 abh=true∨(s.sees 0 abh=false∧s.sees 0 aig=true)∨(s.sees 0 abh=false∧s.sees 0 aig=false∧s.sees 0 aj5=true)):Calls Tryz.prog 110 #[.pointer (some ⟨K.c,0,none⟩)] w (ExQ K w (RX .signed s)):=by
 have he:s.enter p=s.skip.inc:=by
  rcases ab5 s p with ⟨a,_⟩|⟨_,b,_⟩|⟨_,_,b⟩
  ·rw [hs] at a;cases a
  ·exact absurd b h41
  ·exact b
 obtain ⟨u,hu⟩:∃ u,s.skip.inc=u:=⟨_,rfl⟩
 obtain ⟨R,hR⟩:∃ R,RX .signed u=R:=⟨_,rfl⟩
 have hRA:RX .signed s=([mkE 18 0 E0 p E0 [hdE R.1]],R.2.dec):=by rw [RX_signed,hsg];simp only;rw [he,hu,hR]
 rw [hRA]
 have hlt:=h.lt
 have hle0:=h.le
 obtain ⟨W1,hW1⟩:∃ W1,w.alloc (.cells #[.int .i64 0,.int .i32 0,.string ⟨#[]⟩,.string ⟨#[]⟩,.string ⟨#[]⟩,.slice none 0 0,.string ⟨#[]⟩,.int .i64 0] 35)=W1:=⟨_,rfl⟩
 have hb:Below w.heap.size w W1:=by rw [← hW1];exact (Below.refl _ w).alloc (Nat.le_refl _) _
 have hx:Bx W1 w.heap.size #[.int .i64 0,.int .i32 0,.string ⟨#[]⟩,.string ⟨#[]⟩,.string ⟨#[]⟩,.slice none 0 0,.string ⟨#[]⟩,.int .i64 0] 35:=by rw [← hW1];exact Bx.new _ _ _
 have hz:W1.heap.size=w.heap.size+1:=by rw [← hW1];simp
 have HS1:=ke (aa9 (h.below hb) akk (by decide))
 have HS2:=ke (aa9 (h.below hb) fx_not (by decide))
 have HS3:=ke (aa9 (h.below hb) fx_len (by decide))
 obtain ⟨q,hm,hr⟩:=h
 obtain ⟨xw,hxw,hxt⟩:=sees_word hm hr hfp hs
 obtain ⟨c0,_,c2,_,_,_⟩:=(hm.below hb).cells
 obtain ⟨g,o,hA,d0,d1,d2⟩:=(hm.below hb).word hxw
 rw [hA] at c0
 rw [hxt] at d1
 have hkq:=(List.getElem?_eq_some_iff.1 hxw).1
 have hfew:=hm.few
 have hl:(q.k:Int) < K.L.length:=by omega
 have hz0:(0:Int)≤q.k:=by omega
 have hq8:(q.k:Int)≤8000:=by omega
 have h0:=(aea hm hr hfp hs).1
 obtain ⟨_,_,b3,b4,b5⟩:=hr.2.2.1 h0
 have h40:s.op≤40:=by omega
 have HO:Hid (∀ w',Below w.heap.size w w'→Calls Tryz.prog 87 #[.pointer (some ⟨K.c,0,none⟩)] w' fun e w''=>e=.returned (.bool true)∧Mq K { q with dp:=q.dp+1 } w' w''):=ke fun w' hb=>open_yes (hm.below hb) (by omega) (by omega)
 have hin:=hr.into h0 hkq h40
 rw [hu] at hin
 have hul:u.len+1≤s.len:=by
  have h1:=aa4 s p
  have h2:=aa5 hs
  rw [he,hu] at h1;omega
 have huo:1≤u.op:=by rw [← hu];show 1≤wrap64 (s.op+1);simp only [wrap64];omega
 have hRop:R.2.wc=0→1≤R.2.op:=fun e=>by
  have:=RX_op .signed u hin.opb
  rw [hR] at this
  rw [(this e).2];exact huo
 have HRO:=ke hRop
 have HIN:=ke hin
 have HX:Hid (∀ w',Rq K u w'→Calls Tryz.prog 110 #[.pointer (some ⟨K.c,0,none⟩)] w' (ExQ K w' R)):=by
  show ∀ w',_
  intro w' h'
  have:=IH (20 * u.len+5) (by omega) K u w' h' (Nat.le_refl _)
  rw [hR] at this;exact this
 have hkl:=hkq
 clear hm hr hRA hs he hu hR h0 hA hxw hsg hfp hin hRop IH
 rcases hc with e1|⟨e1,e2⟩|⟨e1,e2,e3⟩
 all_goals
  (try rw [e1] at HS1)
  (try rw [e2] at HS2)
  (try rw [e3] at HS3)
  go_enter Tryz.func110,Tryz.ntmps110
  go_upto_region 2 with (go_at_call 22;first|(refine HS1.out.mono ?_;rintro e w1 ⟨rfl,rfl⟩)|(refine HS2.out.mono ?_;rintro e w1 ⟨rfl,rfl⟩)|(refine HS3.out.mono ?_;rintro e w1 ⟨rfl,rfl⟩))
  go_quiet (fail)
  go_upto_region 3 with fail
  refine aak (F:=fun W=>Below w.heap.size w W∧Bx W w.heap.size #[.int .i64 0,.int .i32 0,.string ⟨#[]⟩,.string ⟨#[]⟩,.string ⟨#[]⟩,.slice none 0 0,.string ⟨#[]⟩,.int .i64 0] 35) ⟨hb.trans ((below_drewN (Below.refl _ _) nq).mono hb.size),hx.next (below_drewN (Below.refl _ _) nq)⟩ ?_
  rintro W2 ⟨hb2,hx2⟩
  have HO2:=ke (HO.out _ hb2)
  have HB2:=ke hb2
  have HX2:=ke hx2
  clear c0 c2 d0 d1 d2 hb hx HS1 HS2 HS3 HO hb2 hx2 hW1 hz
  go_upto_region 6 with (go_at_call 87;refine HO2.out.mono ?_;rintro e w3 ⟨rfl,ht⟩;have d2:w3.cell? ⟨K.c,2,none⟩=some (.int .i64 q.k):=ht.2.cells.2.2.1;have f2:=ht.2.2.2.2.fro 2;have hst:=ht.trans (ht.2.step hkl);simp only [Int.natCast_add,Int.natCast_one] at hst;have HT2:=ke (Tq.of hst HIN.out);clear ht hst)
  refine aak (F:=fun W=>Tq K u w W∧Bx W w.heap.size #[.int .i64 0,.int .i32 0,.string ⟨#[]⟩,.string ⟨#[]⟩,.string ⟨#[]⟩,.slice none 0 0,.string ⟨#[]⟩,.int .i64 0] 35) ⟨Tq.after HB2.out HT2.out,(HT2.out.1.block _ HX2.out.lt (by simp;omega)).trans HX2.out⟩ ?_
  rintro W3 ⟨hT3,hX3⟩
  have HT3:Hid (Tq K u w W3):=ke hT3
  have HX3:=ke hX3
  have hlt3:=hX3.lt
  clear hT3 hX3 d2 f2 HT2 HO2 HB2 HX2
  go_upto_region 7 with (go_at_call 110;refine (HX.out _ HT3.out.2).mono ?_;rintro e w4 ⟨xz,y,rfl,hk,hbe,hm4⟩;have HM4:=ke hm4;have HZ:=ke (hk.mono (show w.heap.size+1≤_ by omega));have HBE:=ke hbe;obtain ⟨zk,zn,ztx,znm,zty,zA,zc,zl,rfl,_,_,_⟩:=hk;clear hm4 hbe;simp only [aab])
  have hx4:Bx w4 w.heap.size #[.int .i64 0,.int .i32 0,.string ⟨#[]⟩,.string ⟨#[]⟩,.string ⟨#[]⟩,.slice none 0 0,.string ⟨#[]⟩,.int .i64 0] 35:=(HM4.out.1.block _ HX3.out.lt (by simp;omega)).trans HX3.out
  have hlt4:=hx4.lt
  have hb5:Below w4.heap.size w4 (w4.alloc (.cells #[.int .i64 zk,.int .i32 zn,.string ztx,.string znm,.string zty,.slice zA zl.length zc,.string ⟨#[]⟩,.int .i64 0] 35)):=(Below.refl _ _).alloc (Nat.le_refl _) _
  have hT4:=HT3.out.trans HM4.out
  refine aak (F:=fun W=>Tq K R.2 w W∧Bx W w.heap.size #[.int .i64 0,.int .i32 0,.string ⟨#[]⟩,.string ⟨#[]⟩,.string ⟨#[]⟩,.slice none 0 0,.string ⟨#[]⟩,.int .i64 0] 35∧Bx W w4.heap.size #[.int .i64 zk,.int .i32 zn,.string ztx,.string znm,.string zty,.slice zA zl.length zc,.string ⟨#[]⟩,.int .i64 0] 35∧ExK (w.heap.size+1) none W xz (Nd.ex zk zn ztx znm zty (.slice zA zl.length zc) zl ⟨#[]⟩ 0)) ⟨hT4.trans (Tq.below hT4.2 hb5),hx4.next hb5,Bx.new _ _ _,HZ.out.below hb5⟩ ?_
  rintro W4 ⟨hT,hX,hY,hZ⟩
  have HT5:Hid (Tq K R.2 w W4):=ke hT
  have HX5:=ke hX
  have HY5:=ke hY
  have HZ5:=ke hZ
  obtain ⟨_,q5,hm5,hr5⟩:=hT
  have d5:W4.cell? ⟨K.c,5,none⟩=some (.int .i64 q5.dp):=hm5.cells.2.2.2.2.2
  have f5:=hm5.2.2.2.fro 5
  have HE5:=ke (HT5.out.out hm5 hr5 HRO.out)
  have HG6:=ke (hm5.deep (wrap64 (q5.dp - 1))).1
  clear hX hY hZ hm5 hr5 hx4 hb5 hT4 HZ HM4 HX3 HT3
  go_upto_region 8 with fail
  refine aak (F:=fun W=>Tq K R.2.dec w W∧Bx W w.heap.size #[.int .i64 0,.int .i32 0,.string ⟨#[]⟩,.string ⟨#[]⟩,.string ⟨#[]⟩,.slice none 0 0,.string ⟨#[]⟩,.int .i64 0] 35∧Bx W w4.heap.size #[.int .i64 zk,.int .i32 zn,.string ztx,.string znm,.string zty,.slice zA zl.length zc,.string ⟨#[]⟩,.int .i64 0] 35∧ExK (w.heap.size+1) none W xz (Nd.ex zk zn ztx znm zty (.slice zA zl.length zc) zl ⟨#[]⟩ 0)) ⟨HE5.out,HX5.out.grown HG6.out (by omega),HY5.out.grown HG6.out (by omega),HZ5.out.grown HG6.out (.inl (by omega))⟩ ?_
  rintro W5 ⟨hT,hX,hY,hZ⟩
  replace hT:Tq K R.2.dec w W5:=hT
  have hlt5:=hX.lt
  obtain ⟨W6,hW6⟩:∃ W6,W5.alloc (.cells #[.int .i64 zk,.int .i32 zn,.string ztx,.string znm,.string zty,.slice zA zl.length zc,.string ⟨#[]⟩,.int .i64 0] 35)=W6:=⟨_,rfl⟩
  have hb6:Below W5.heap.size W5 W6:=by rw [← hW6];exact (Below.refl _ _).alloc (Nat.le_refl _) _
  have HO6:=ke (OwnE.one hZ (by omega))
  have HBZ:=ke hZ.bare
  simp only [aab] at HO6
  rw [hW6] at HO6
  have HX6:=ke (hX.next hb6)
  have HT7:=ke (hT.trans (Tq.below hT.2 hb6))
  obtain ⟨p0,p1,p2,p3,p4,p5,p6,p7⟩:=hX.all_8
  obtain ⟨b0,b1,b2,b3,b4,b5,b6,b7⟩:=hY.all_8
  obtain ⟨s0,s1,s2,s3,s4,s5,s6,s7⟩:=HX6.out.all_8
  have g0:=HX6.out.fro 0;have g1:=HX6.out.fro 1;have g2:=HX6.out.fro 2;have g3:=HX6.out.fro 3;have g4:=HX6.out.fro 4;have g5:=HX6.out.fro 5;have g6:=HX6.out.fro 6;have g7:=HX6.out.fro 7
  have hszz:(⟨#[]⟩:ByteArray).size≤maxLen∧p.size≤maxLen∧(⟨#[]⟩:ByteArray).size≤maxLen:=⟨Nat.zero_le _,hpz,Nat.zero_le _⟩
  have HK6:=ke (HO6.out.node 18 0 ⟨#[]⟩ p ⟨#[]⟩ hszz (x:=mkE 18 0 E0 p E0 [xz]) (ab4 (acp HBZ.out) _ _ _ _ _))
  have HG7:=ke (aaw W6 w.heap.size (.int .i64 18) (.int .i32 0) (.string ⟨#[]⟩) (.string p) (.string ⟨#[]⟩) (.slice (some ⟨W5.heap.size,0,none⟩) 1 1) (.string ⟨#[]⟩) (.int .i64 0))
  clear hT hX hY hZ hb6 d5 f5 HE5 HG6 HT5 HX5 HY5 HZ5
  go_wp2_with fail
  obtain ⟨z0,z1,z2,z3,z4,z5,z6,z7⟩:=(HX6.out.to_8 (.int .i64 18) (.int .i32 0) (.string ⟨#[]⟩) (.string p) (.string ⟨#[]⟩) (.slice (some ⟨W5.heap.size,0,none⟩) 1 1) (.string ⟨#[]⟩) (.int .i64 0)).all_8
  (try simp only [Exit.inBlock,Exit.then])
  refine bodyPost_ret (v:=.agg #[.int .i64 18,.int .i32 0,.string ⟨#[]⟩,.string p,.string ⟨#[]⟩,.slice (some ⟨W5.heap.size,0,none⟩) 1 1,.string ⟨#[]⟩,.int .i64 0]) (by simp [results,Tryz.results110,go_sem,z0,z1,z2,z3,z4,z5,z6,z7]) rfl ?_
  refine ⟨_,_,rfl,(HK6.out.grown HG7.out (.inl (by omega))).mono (by omega),fun e=>?_,HT7.out.row HG7.out (fun k e=>by injection e with e;omega) hlt hle0⟩
  have e2:R.2.wc=0:=e
  have e3:=HBE.out e2
  show aaq (mkE 18 0 E0 p E0 [xz])=aaq (mkE 18 0 E0 p E0 [hdE R.1])
  simp only [mkE,aaq,aai,e3]
end
section
open Go.RowKit
theorem unary_ofQ (N:Nat) (IHu:∀ m,m < N→SpecUn m) (IHt:∀ m,m < N→SpecTo m) (IHb:∀ m,m < N→SpecBh m):SpecUn N:=by
 intro K s w h hn
 have key:∀ p:ByteArray,s.sees 0 p=true→ajh p→p.size≤maxLen→acz s=some p→(s.sees 0 abh=true∨(s.sees 0 abh=false∧s.sees 0 aig=true)∨(s.sees 0 abh=false∧s.sees 0 aig=false∧s.sees 0 aj5=true))→Calls Tryz.prog 110 #[.pointer (some ⟨K.c,0,none⟩)] w (ExQ K w (RX .signed s)):=by
  intro p hs hf hz hsg hc
  by_cases h41:s.op=41
  ·exact unary_no K s w h p hs hf hsg h41 hc
  ·exact unary_yes N IHu K s w h hn p hs hf hz hsg h41 hc
 have z:(1:Nat)≤maxLen:=by unfold maxLen;decide
 cases h1:s.sees 0 abh with
 | true=>exact key abh h1 akk z (by unfold acz;rw [h1];rfl) (.inl h1)
 | false =>
  cases h2:s.sees 0 aig with
  | true=>exact key aig h2 fx_not z (by unfold acz;rw [h1,h2];rfl) (.inr (.inl ⟨h1,h2⟩))
  | false =>
   cases h3:s.sees 0 aj5 with
   | true=>exact key aj5 h3 fx_len z (by unfold acz;rw [h1,h2,h3];rfl) (.inr (.inr ⟨h1,h2,h3⟩))
   | false=>exact unary_none N IHt IHb K s w h hn h1 h2 h3
theorem binary_ofQ (N:Nat) (IHu:∀ m,m < N→SpecUn m) (IHb:∀ m,m < N→SpecBi m):SpecBi N:=by
 intro K s w k h h1 h7 hn
 by_cases e:k=7
 ·subst e;exact binary_top N IHu K s w h (by omega)
 ·exact binary_low N IHb K s w k h h1 (by omega) hn
end
section
open Go.RowKit
def ExP (B:Nat) (R:Nat→Prop) (w:World) (x y:Nd):Prop :=
 ∃ (k n:Int) (tx nm ty:ByteArray) (A:Option Addr) (cap:Nat) (l:List Nd),y=.ex k n tx nm ty (.slice A l.length cap) l ⟨#[]⟩ 0∧(tx.size≤maxLen∧nm.size≤maxLen∧ty.size≤maxLen) ∧
  (∀ ws,(∀ k j u,B≤k→¬ R k→w.cell? ⟨k,j,none⟩=some u→ws.cell? ⟨k,j,none⟩=some u)→Rw ws .ex (.slice A l.length cap) l∧KdL ws l)∧aaq y=aaq x
section
variable {B C g:Nat} {R:Nat→Prop} {w w':World} {x y z:Nd}
theorem ExP.free (h:ExP B R w x y):ExK B none w x y:=by
 obtain ⟨k,n,tx,nm,ty,A,cap,l,e,hs,hf,hb⟩:=h
 exact ⟨k,n,tx,nm,ty,A,cap,l,e,hs,fun ws hk=>hf ws fun k j u hB _ hu=>hk k j u hB (by simp) hu,hb⟩
theorem ExP.next (h:ExP B R w x y) (hw:∀ k j u,B≤k→¬ R k→w.cell? ⟨k,j,none⟩=some u→w'.cell? ⟨k,j,none⟩=some u):ExP B R w' x y:=by
 obtain ⟨k,n,tx,nm,ty,A,cap,l,e,hs,hf,hb⟩:=h
 exact ⟨k,n,tx,nm,ty,A,cap,l,e,hs,fun ws hk=>hf ws fun k j u hB hr hu=>hk k j u hB hr (hw k j u hB hr hu),hb⟩
theorem ExP.grown (h:ExP B R w x y) (hg:w.grownBy w' (some g)) (hB:g < B∨R g):ExP B R w' x y :=
 h.next fun k j u hk hr hu=>(World.cell?_of_block (a:=⟨k,j,none⟩) (hg.block k (World.block_lt_of_cell? w (a:=⟨k,j,none⟩) hu) (by
  intro e
  injection e with e
  subst e
  rcases hB with h|h
  ·omega
  ·exact hr h))).trans hu
theorem ExP.below (h:ExP B R w x y) (hb:Below w.heap.size w w'):ExP B R w' x y:=h.next fun k j u _ _ hu=>Keep.below hb _ _ hu
theorem ExP.bare (h:ExP B R w x y):aaq y=aaq x:=by obtain ⟨_,_,_,_,_,_,_,_,_,_,_,hb⟩:=h;exact hb
theorem ExP.kd (h:ExP B R w x y):EX y∧∀ ws,(∀ k j u,B≤k→¬ R k→w.cell? ⟨k,j,none⟩=some u→ws.cell? ⟨k,j,none⟩=some u)→Kd ws y:=by
 obtain ⟨k,n,tx,nm,ty,A,cap,l,rfl,hs,hf,hb⟩:=h
 refine ⟨⟨k,n,tx,nm,ty,A,l.length,cap,l,rfl⟩,fun ws hk=>?_⟩
 rw [Kd]
 exact ⟨hs,(hf ws hk).1,(hf ws hk).2⟩
theorem ExK.newer (h:ExK B none w x y) (hb:Below w.heap.size w w') (hg:∀ g,R g→w.heap.size≤g):ExP B R w' x y:=by
 obtain ⟨k,n,tx,nm,ty,A,cap,l,e,hs,hf,hb'⟩:=h
 refine ⟨k,n,tx,nm,ty,A,cap,l,e,hs,fun ws hk=>hf ws fun k j u hB _ hu=>?_,hb'⟩
 have hlt:=World.block_lt_of_cell? w (a:=⟨k,j,none⟩) hu
 simp only at hlt
 exact hk k j u hB (fun hR=>by have:=hg k hR;omega) (Keep.below hb _ _ hu)
end
def OwnZ (B:Nat) (R:Nat→Prop) (w:World) (v:Value) (ys:List Nd):Prop :=
 w.ownsRow B 35 8 v ys.length (ys.flatMap aab)∧(∀ y ∈ ys,EX y)∧(∀ ws,(∀ k j u,B≤k→some k≠v.ownBlock→¬ R k→w.cell? ⟨k,j,none⟩=some u→ws.cell? ⟨k,j,none⟩=some u)→KdL ws ys)∧ys.length≤2000000
section
variable {B B2:Nat} {R:Nat→Prop} {w w5 w' W:World} {v v2 v':Value} {xs ys:List Nd} {x y:Nd}
theorem OwnZ.node (h:OwnZ B R w v ys) (hr:∀ g,R g→v.ownBlock≠some g) (k n:Int) (tx nm ty:ByteArray) (hs:tx.size≤maxLen∧nm.size≤maxLen∧ty.size≤maxLen) {x:Nd} (hx:aaq x=.ex k n tx nm ty (.slice none 0 0) (aai ys) ⟨#[]⟩ 0) :
 ExP B R w x (.ex k n tx nm ty v ys ⟨#[]⟩ 0):=by
 obtain ⟨ho,hex,hk,hm⟩:=h
 have ht:∀ x ∈ ys,x.tag=.ex:=fun x hx'=>(hex x hx').tag
 obtain ⟨A,cap,rfl,hc⟩:=abc ho
 refine ⟨k,n,tx,nm,ty,A,cap,ys,rfl,hs,fun ws hws=>⟨⟨A,cap,rfl,⟨by unfold maxLen;omega,hc⟩,ht,fun hn=>?_⟩,hk ws fun k j u hB n1 n2 hu=>hws k j u hB n2 hu⟩,by rw [hx];rfl⟩
 obtain ⟨g,cap',hv,hg,hl,hat⟩:=ags ho hn
 injection hv with h1 h2 h3
 refine ⟨g,0,h1,fun i x hx j u hu=>?_⟩
 have hj:j < Tg.ex.sz:=by rw [← ht x (List.mem_of_getElem? hx),← acs];exact (List.getElem?_eq_some_iff.1 hu).1
 have:=(hat (i * Tg.ex.sz+j) u (by rw [ah7 ys i j x ht hx hj];exact hu)).1
 rw [Nat.zero_add]
 refine hws g _ u hg (fun e=>?_) this
 subst h1
 exact hr g e rfl
theorem OwnZ.one (h:ExP B R W x y) (hB:B≤W.heap.size):OwnZ B R (W.alloc (.cells (aab y).toArray 35)) (.slice (some ⟨W.heap.size,0,none⟩) 1 1) [y]:=by
 obtain ⟨hex,hk⟩:=h.kd
 have hl:=World.ownsRow_lit (base:=B) (e:=35) (size:=8) W (aab y).toArray 1 hB (by unfold maxLen;omega) (by simp [acs,hex.tag,Tg.sz])
 refine ⟨by simpa using hl,by simpa using hex,?_,by simp⟩
 intro ws hs
 refine ⟨hk ws fun k j u hB' hr hu=>hs k j u hB' ?_ hr (Keep.below ((Below.refl _ W).alloc (Nat.le_refl _) _) _ _ hu),trivial⟩
 have hlt:=World.block_lt_of_cell? W (a:=⟨k,j,none⟩) hu
 simp only [Value.ownBlock] at hlt ⊢
 simp;omega
theorem OwnZ.app2 (h:OwnZ B R w v xs) (h2:OwnE B2 w5 v2 ys) (hB:B≤B2) (hm:xs.length+ys.length≤2000000) (hr:∀ g,R g→g < B2)
 (ho:w'.ownsRow B 35 8 v' (xs.length+ys.length) (xs.flatMap aab ++ ys.flatMap aab))
 (k1:∀ k j u,B≤k→k < w.heap.size→some k≠v.ownBlock→w.cell? ⟨k,j,none⟩=some u→w'.cell? ⟨k,j,none⟩=some u∧some k≠v'.ownBlock)
 (k2:∀ k j u,B2≤k→k < w5.heap.size→w5.cell? ⟨k,j,none⟩=some u→w'.cell? ⟨k,j,none⟩=some u∧some k≠v'.ownBlock):OwnZ B R w' v' (xs ++ ys):=by
 refine ⟨by simpa using ho,fun y hy=>?_,fun ws hs=>afb (h.2.2.1 ws fun k j u hk hne hne2 hu=>?_) (h2.2.2.1 ws fun k j u hk hne hu=>?_),by simpa using hm⟩
 ·rcases List.mem_append.1 hy with hy|hy
  ·exact h.2.1 y hy
  ·exact h2.2.1 y hy
 ·have hlt:k < w.heap.size:=World.block_lt_of_cell? w (a:=⟨k,j,none⟩) hu
  exact hs k j u hk (k1 k j u hk hlt hne hu).2 hne2 (k1 k j u hk hlt hne hu).1
 ·have hlt:k < w5.heap.size:=World.block_lt_of_cell? w5 (a:=⟨k,j,none⟩) hu
  exact hs k j u (Nat.le_trans hB hk) (k2 k j u hk hlt hu).2 (fun hR=>by have:=hr k hR;omega) (k2 k j u hk hlt hu).1
end
def BehQ (K:QC) (B:Nat) (w:World) (s:RS) (x:Nd) (k m:Int) (tx nm ty:ByteArray) (A:Option Addr) (cap:Nat) (l:List Nd) (w':World):Prop :=
 Tq K s w w'∧Bx w' w.heap.size #[.int .i64 k,.int .i32 m,.string tx,.string nm,.string ty,.slice A l.length cap,.string ⟨#[]⟩,.int .i64 0] 35∧Bx w' (w.heap.size+1) #[.int .i64 0,.int .i32 0,.string ⟨#[]⟩,.string ⟨#[]⟩,.string ⟨#[]⟩,.slice none 0 0,.string ⟨#[]⟩,.int .i64 0] 35∧ExP B (fun g=>g=w.heap.size∨g=w.heap.size+1) w' x (.ex k m tx nm ty (.slice A l.length cap) l ⟨#[]⟩ 0)∧K.c < B∧K.W0.heap.size≤B∧B≤w.heap.size
section
variable {K:QC} {w w' w'':World} {B:Nat} {s s2:RS} {x z:Nd} {k m:Int} {tx nm ty:ByteArray} {A:Option Addr} {cap:Nat} {l:List Nd}
theorem BehQ.below (h:BehQ K B w s x k m tx nm ty A cap l w') (hb:Below w'.heap.size w' w''):BehQ K B w s x k m tx nm ty A cap l w'' :=
 ⟨h.1.trans (Tq.below h.1.2 hb),h.2.1.next hb,h.2.2.1.next hb,h.2.2.2.1.below hb,h.2.2.2.2⟩
theorem BehQ.move (h:BehQ K B w s x k m tx nm ty A cap l w') (hm:Tq K s2 w' w''):BehQ K B w s2 x k m tx nm ty A cap l w'' :=
 have h1:=h.2.2.2.2.1
 have h2:=h.2.2.2.2.2
 ⟨h.1.trans hm,h.2.1.grown hm.1 (by omega),h.2.2.1.grown hm.1 (by omega),h.2.2.2.1.grown hm.1 (.inl h1),h.2.2.2.2⟩
theorem BehQ.put {x':Nd} {k' m':Int} {tx' nm' ty':ByteArray} {A':Option Addr} {cap':Nat} {l':List Nd} (h:BehQ K B w s x' k' m' tx' nm' ty' A' cap' l' w') (hk:ExP B (fun g=>g=w.heap.size∨g=w.heap.size+1) w' x (.ex k m tx nm ty (.slice A l.length cap) l ⟨#[]⟩ 0)) :
 BehQ K B w s x k m tx nm ty A cap l ((((((((w'.setCell ⟨w.heap.size,0,none⟩ (.int .i64 k)).setCell ⟨w.heap.size,1,none⟩ (.int .i32 m)).setCell ⟨w.heap.size,2,none⟩ (.string tx)).setCell ⟨w.heap.size,3,none⟩ (.string nm)).setCell ⟨w.heap.size,4,none⟩ (.string ty)).setCell ⟨w.heap.size,5,none⟩ (.slice A l.length cap)).setCell ⟨w.heap.size,6,none⟩ (.string ⟨#[]⟩)).setCell ⟨w.heap.size,7,none⟩ (.int .i64 0)):=by
 have hg:=aaw w' w.heap.size (.int .i64 k) (.int .i32 m) (.string tx) (.string nm) (.string ty) (.slice A l.length cap) (.string ⟨#[]⟩) (.int .i64 0)
 have h1:=h.2.2.2.2.1
 have h2:=h.2.2.2.2.2
 exact ⟨h.1.row hg (fun i e=>by injection e with e;omega) (by omega) (by omega),h.2.1.to_8 (.int .i64 k) (.int .i32 m) (.string tx) (.string nm) (.string ty) (.slice A l.length cap) (.string ⟨#[]⟩) (.int .i64 0),h.2.2.1.grown hg (by omega),hk.grown hg (.inr (.inl rfl)),h.2.2.2.2⟩
end
end
section
open Go.RowKit
theorem loopF_none {s:RS} (h1:s.sees 0 af5=false) (h2:s.sees 0 sAs=false) (h3:s.sees 0 sIs=false) (e:Nd):RX (.loopF e) s=([e],s):=by
 rw [aib];simp only [h1,h2,h3,Bool.false_eq_true,if_false]
theorem aas {s:RS} {p:ByteArray} (h:s.sees 0 p=false):s.take p=s:=by unfold RS.take;rw [h];simp
theorem afx {s:RS} {p:ByteArray} (h:s.sees 0 p=true):s.take p=s.skip:=by unfold RS.take;rw [h];simp
theorem OwnZ.grown {B c:Nat} {R:Nat→Prop} {w w':World} {v:Value} {ys:List Nd} (h:OwnZ B R w v ys) (hg:w.grownBy w' (some c)) (hc:c < B):OwnZ B R w' v ys :=
 ⟨h.1.kept hg (by
   cases hv:v.ownBlock with
   | none=>exact .inl rfl
   | some g=>exact .inr (by have:=(h.1.lt g hv).1;simp;omega)),h.2.1,fun ws hs=>h.2.2.1 ws fun k j u hk n1 n2 hu=>hs k j u hk n1 n2 ((World.cell?_of_block (a:=⟨k,j,none⟩) (hg.block k (World.block_lt_of_cell? w (a:=⟨k,j,none⟩) hu) (by simp;omega))).trans hu),h.2.2.2⟩
theorem BehQ.one {K:QC} {B:Nat} {w w':World} {s:RS} {x:Nd} {k m:Int} {tx nm ty:ByteArray} {A:Option Addr} {cap:Nat} {l:List Nd} (h:BehQ K B w s x k m tx nm ty A cap l w'):OwnZ B (fun g=>g=w.heap.size∨g=w.heap.size+1) (w'.alloc (.cells #[.int .i64 k,.int .i32 m,.string tx,.string nm,.string ty,.slice A l.length cap,.string ⟨#[]⟩,.int .i64 0] 35)) (.slice (some ⟨w'.heap.size,0,none⟩) 1 1) [.ex k m tx nm ty (.slice A l.length cap) l ⟨#[]⟩ 0]:=by
 have:=OwnZ.one h.2.2.2.1 (by have:=h.2.2.1.lt;have:=h.2.2.2.2.2.2;omega)
 simpa only [aab] using this
theorem below_two {a b:World} {o:Obj} (h:(a.alloc o).grownBy b none):Below a.heap.size a b :=
 ((Below.refl _ a).alloc (Nat.le_refl _) o).trans ((adh h).mono (by simp))
theorem call_row_a {B B2 g0:Nat} {R:Nat→Prop} {w4 w6:World} {v2 v3:Value} {y:Nd} {ys:List Nd} (h:OwnZ B R w4 (.slice (some ⟨g0,0,none⟩) 1 1) [y]) (h2:OwnE B2 w4 v2 ys) (hB:B≤B2) (hr:∀ g,R g→g < B2) (hg0:g0 < B2) (hl:ys.length≤8010)
 (ho:w6.ownsRow B 35 8 v3 (1+ys.length) ([y].flatMap aab ++ ys.flatMap aab)) (hg:w4.grownBy w6 none) (hat:v3.ownBlock=some g0∨∃ k,v3.ownBlock=some k∧w4.heap.size≤k):OwnZ B R w6 v3 ([y] ++ ys):=by
 refine h.app2 h2 hB (by simp;omega) hr (by simpa using ho) (fun k j u h1 h3 h4 hu=>⟨(World.cell?_of_block (a:=⟨k,j,none⟩) (hg.block k h3 (by simp))).trans hu,?_⟩) (fun k j u h1 h3 hu=>⟨(World.cell?_of_block (a:=⟨k,j,none⟩) (hg.block k h3 (by simp))).trans hu,?_⟩)
 ·rcases hat with e|⟨k2,e,hk⟩
  ·rw [e];exact h4
  ·rw [e];simp;omega
 ·rcases hat with e|⟨k2,e,hk⟩
  ·rw [e];simp;omega
  ·rw [e];simp;omega
theorem call_row_b {B B2:Nat} {R:Nat→Prop} {w4 w6:World} {o:Obj} {v2 v3:Value} {y:Nd} {ys:List Nd} (h:OwnZ B R (w4.alloc o) (.slice (some ⟨w4.heap.size,0,none⟩) 1 1) [y]) (h2:OwnE B2 w4 v2 ys) (hB:B≤B2) (hr:∀ g,R g→g < B2) (hl:ys.length≤8010)
 (ho:w6.ownsRow B 35 8 v3 (1+ys.length) ([y].flatMap aab ++ ys.flatMap aab)) (hg:(w4.alloc o).grownBy w6 none) (hat:v3.ownBlock=some w4.heap.size∨∃ k,v3.ownBlock=some k∧(w4.alloc o).heap.size≤k):OwnZ B R w6 v3 ([y] ++ ys):=by
 have hs:(w4.alloc o).heap.size=w4.heap.size+1:=by simp
 refine h.app2 h2 hB (by simp;omega) hr (by simpa using ho) (fun k j u h1 h3 h4 hu=>⟨(World.cell?_of_block (a:=⟨k,j,none⟩) (hg.block k h3 (by simp))).trans hu,?_⟩) (fun k j u h1 h3 hu=>⟨?_,?_⟩)
 ·rcases hat with e|⟨k2,e,hk⟩
  ·rw [e];exact h4
  ·rw [e];simp;omega
 ·exact Keep.below (below_two hg) _ _ hu
 ·rcases hat with e|⟨k2,e,hk⟩
  ·rw [e];simp;omega
  ·rw [e];simp;omega
theorem not_two {v3:Value} {g0 n a:Nat} (hat:v3.ownBlock=some g0∨∃ k,v3.ownBlock=some k∧n≤k) (h0:a+1 < g0) (hn:a+1 < n):∀ g,(g=a∨g=a+1)→v3.ownBlock≠some g:=by
 intro g hg e
 rcases hat with h|⟨k,h,hk⟩
 ·rw [h] at e;injection e with e;omega
 ·rw [h] at e;injection e with e;omega
theorem call_node {x y:Nd} {ys:List Nd} {q:List Nd×RS} {t:ByteArray} (hxy:aaq y=aaq x) (hby:q.2.wc=0→aai ys=aai q.1) (v:Value):∃ X,aaq X=.ex 10 0 ⟨#[]⟩ t ⟨#[]⟩ (.slice none 0 0) (aai ([y] ++ ys)) ⟨#[]⟩ 0∧(q.2.wc=0→X=mkE 10 0 E0 t E0 ([x] ++ q.1)):=by
 by_cases e:q.2.wc=0
 ·exact ⟨_,ab4 (by rw [aap,aap,acp hxy,hby e]) _ _ _ _ _,fun _=>rfl⟩
 ·exact ⟨.ex 10 0 ⟨#[]⟩ t ⟨#[]⟩ v ([y] ++ ys) ⟨#[]⟩ 0,rfl,fun h=>absurd h e⟩
theorem behind_ofQ (N:Nat) (IH:∀ m,m < N→agl m):SpecBh N:=by
 intro K s w B x0 y0 h hk0 hcB hWB hBw hn
 obtain ⟨k0,m0,tx0,nm0,ty0,A0,cap0,l0,rfl,hs0,hf0,hbb0⟩:=hk0
 have HK0:Hid (ExK B none w x0 (.ex k0 m0 tx0 nm0 ty0 (.slice A0 l0.length cap0) l0 ⟨#[]⟩ 0)):=⟨k0,m0,tx0,nm0,ty0,A0,cap0,l0,rfl,hs0,hf0,hbb0⟩
 obtain ⟨RR,hRR⟩:∃ RR,RX (.loopF x0) s=RR:=⟨_,rfl⟩
 rw [hRR]
 have hlt:=h.lt
 have hle0:=h.le
 have HF0:Hid (BehQ K B w s x0 k0 m0 tx0 nm0 ty0 A0 cap0 l0 ((w.alloc (.cells #[.int .i64 k0,.int .i32 m0,.string tx0,.string nm0,.string ty0,.slice A0 l0.length cap0,.string ⟨#[]⟩,.int .i64 0] 35)).alloc (.cells #[.int .i64 0,.int .i32 0,.string ⟨#[]⟩,.string ⟨#[]⟩,.string ⟨#[]⟩,.slice none 0 0,.string ⟨#[]⟩,.int .i64 0] 35))):=by
  have hb1:Below w.heap.size w (w.alloc (.cells #[.int .i64 k0,.int .i32 m0,.string tx0,.string nm0,.string ty0,.slice A0 l0.length cap0,.string ⟨#[]⟩,.int .i64 0] 35)):=(Below.refl _ w).alloc (Nat.le_refl _) _
  obtain ⟨W1,hW1⟩:∃ W1,w.alloc (.cells #[.int .i64 k0,.int .i32 m0,.string tx0,.string nm0,.string ty0,.slice A0 l0.length cap0,.string ⟨#[]⟩,.int .i64 0] 35)=W1:=⟨_,rfl⟩
  have hx1:Bx W1 w.heap.size #[.int .i64 k0,.int .i32 m0,.string tx0,.string nm0,.string ty0,.slice A0 l0.length cap0,.string ⟨#[]⟩,.int .i64 0] 35:=by rw [← hW1];exact Bx.new _ _ _
  have hz1:W1.heap.size=w.heap.size+1:=by rw [← hW1];simp
  rw [hW1] at hb1
  rw [hW1]
  have hb2:Below W1.heap.size W1 (W1.alloc (.cells #[.int .i64 0,.int .i32 0,.string ⟨#[]⟩,.string ⟨#[]⟩,.string ⟨#[]⟩,.slice none 0 0,.string ⟨#[]⟩,.int .i64 0] 35)):=(Below.refl _ W1).alloc (Nat.le_refl _) _
  have hx2:=Bx.new W1 #[.int .i64 0,.int .i32 0,.string ⟨#[]⟩,.string ⟨#[]⟩,.string ⟨#[]⟩,.slice none 0 0,.string ⟨#[]⟩,.int .i64 0] 35
  rw [hz1] at hx2
  have hb:=hb1.trans (hb2.mono hb1.size)
  exact ke ⟨Tq.below h hb,hx1.next hb2,hx2,HK0.out.newer hb (fun g hg=>by rcases hg with hg|hg<;>omega),hcB,hWB,hBw⟩
 have HRR:=ke hRR
 have HIH:=ke IH
 clear hs0 hf0 hbb0 hRR IH h HK0
 simp only [aab]
 go_enter Tryz.func144,Tryz.ntmps144
 go_wp2_with fail
 go_loopw [5,12,30,38] (fun v5 v12 v30 v38 wr=>∃ (x:Nd) (s':RS) (k n':Int) (tx nm ty:ByteArray) (A:Option Addr) (cap:Nat) (l:List Nd),BehQ K B w s' x k n' tx nm ty A cap l wr∧s'.len≤s.len∧(s'.wc=0→RX (.loopF x) s'=RR)∧(s'.wc≠0→FlS s' RR.2)) (fun v5 v12 v30 v38 wr=>lfOf wr K.c K.L.length)
 case atStart =>
  refine ⟨x0,s,_,_,_,_,_,_,_,_,HF0.out,Nat.le_refl _,fun _=>HRR.out,fun e=>?_⟩
  obtain ⟨q0,hm0,hr0⟩:=HF0.out.1.2
  have hfb:=hr0.fb e
  rw [← HRR.out,aec hfb];exact FlS.refl hfb
 case round =>
  obtain ⟨x,s',k,n',tx,nm,ty,A,cap,l,hf,hsl,hgood,hbad⟩:=hrel
  have HF:=ke hf
  obtain ⟨q,hm,hr⟩:=hf.1.2
  obtain ⟨_,_,_,c3,_,_⟩:=hm.cells
  by_cases h0:s'.wc=0
  ·have hb0:q.bd=0:=by rw [hr.bad];exact h0
   rw [hb0] at c3
   have hrun:=hgood h0
   have TK:∀ p:ByteArray,ajh p→p.data.toList≠[]→s'.sees 0 p=false→∀ w',Rq K s' w'→Calls Tryz.prog 21 #[.pointer (some ⟨K.c,0,none⟩),.string p] w' fun e w''=>e=.returned (.bool false)∧Tq K s' w' w'':=by
    intro p hp hne hs w' h'
    have:=aes h' p hp hne
    rw [hs,aas hs] at this
    exact this
   cases hs1:s'.sees 0 af5 with
   | true =>
    obtain ⟨s1,hs1e⟩:∃ s1,s'.skip.name=s1:=⟨_,rfl⟩
    obtain ⟨t,htn⟩:∃ t,s'.skip.nameV=t:=⟨_,rfl⟩
    have htx:t.size≤maxLen:=by rw [← htn];exact abz _
    have HT1:Hid (∀ w',Rq K s' w'→Calls Tryz.prog 21 #[.pointer (some ⟨K.c,0,none⟩),.string af5] w' fun e w''=>e=.returned (.bool true)∧Tq K s'.skip w' w''):=ke fun w' h'=>by
     have:=aes h' af5 fx_dot (by decide)
     rw [hs1,afx hs1] at this
     exact this
    have HNM:Hid (∀ w',Rq K s'.skip w'→Calls Tryz.prog 52 #[.pointer (some ⟨K.c,0,none⟩)] w' fun e w''=>e=.returned (.string t)∧Tq K s1 w' w''):=ke fun w' h'=>by rw [← hs1e,← htn];exact afh h'
    have h1:=aa5 hs1
    have h2:=aaf s'
    have h3:=abg s'.skip
    rw [hs1e] at h3
    have hlf:=hf.1.2.lf.1 h0
    cases hs2:s1.sees 0 aah with
    | true =>
     have h4:=aa5 hs2
     obtain ⟨q2,hq2⟩:∃ q2,RX .args s1=q2:=⟨_,rfl⟩
     have h5:q2.2.len≤s1.len:=by rw [← hq2];exact ae2 _ _
     have hrun2:RX (.loopF (mkE 10 0 E0 t E0 ([x] ++ q2.1))) q2.2=RR:=by
      rw [aib,hs1] at hrun
      simp only [if_true] at hrun
      rw [ahr,hs1e,hs2,htn,hq2] at hrun
      simpa [hdE] using hrun
     have HSO:Hid (∀ w',Rq K s1 w'→Calls Tryz.prog 22 #[.pointer (some ⟨K.c,0,none⟩),.string aah] w' fun e w''=>e=.returned (.bool true)∧w'=w''):=ke fun w' h'=>by
      have:=aa9 h' adl (by decide)
      rw [hs2] at this;exact this
     have HA:Hid (∀ w',Rq K s1 w'→Calls Tryz.prog 136 #[.pointer (some ⟨K.c,0,none⟩)] w' (LsQ K w' q2)):=ke fun w' h'=>by
      have:=HIH.out (20 * s1.len+14) (by omega) K s1 w' h' (Nat.le_refl _)
      rw [hq2] at this;exact this
     have HRUN:=ke hrun2
     clear hgood hbad hm hr hf hrun hrun2 TK hs1 hs2 hs1e htn HF0 HRR HIH hq2
     go_wp2_with fail
     refine (HT1.out _ HF.out.1.2).mono ?_
     rintro e wa ⟨rfl,ha⟩
     have HFa:=ke (HF.out.move ha)
     clear ha
     go_wp2_with fail
     refine (HNM.out _ HFa.out.1.2).mono ?_
     rintro e wb ⟨rfl,hb⟩
     have HFb:=ke (HFa.out.move hb)
     clear hb
     go_wp2_with fail
     refine (HSO.out _ HFb.out.1.2).mono ?_
     rintro e wc ⟨rfl,rfl⟩
     have HFD:Hid (BehQ K B w s1 x k n' tx nm ty A cap l wb.drew):=ke (HFb.out.below (Below.refl _ _).drew)
     have HFA:=ke (HFD.out.below ((Below.refl _ _).alloc (Nat.le_refl _) (.cells #[.int .i64 k,.int .i32 n',.string tx,.string nm,.string ty,.slice A l.length cap,.string ⟨#[]⟩,.int .i64 0] 35)))
     have HOA:=ke HFD.out.one
     obtain ⟨a0,a1,a2,a3,a4,a5,a6,a7⟩:=HFb.out.2.1.all_8
     have hlt3:w.heap.size+1 < wb.drew.heap.size:=HFD.out.2.2.1.lt
     have hltw:w.heap.size+1 < wb.heap.size:=hlt3
     obtain ⟨i0,hi,hz0,hzz1,hzz2⟩:=info_parts Tryz.infoEx
     clear HT1 HNM HSO
     go_upto_region 6 with (fail)
     go_region_law (first
      | (refine adt rfl (.tmp 21) (.tmp 23) 33 rfl 35 i0 _ 8 112 Tryz.underlying33 hi hz0 hzz1 hzz2 rfl (by decide) B (some ⟨wb.drew.heap.size,0,none⟩) 1 _ rfl HOA4.out.1 _ _ ys.length _ rfl HO2.out.1 (ai7 HO2.out.2.1) HC1.out HC2.out HC3.out ?_;intro v3 w6 ho6 hg6 hat6;have HOW:=ke (call_row_a HOA4.out HO2.out (by simp;omega) (fun g hg=>by simp;rcases hg with hg|hg<;>omega) (by simp) HYL.out ho6 hg6 hat6);have HN3:=ke (not_two (a:=w.heap.size) hat6 hlt3 hlt4);have HF6:=ke (HF4.out.below (adh hg6));obtain ⟨A3,cap3,rfl,_⟩:=abc ho6;clear ho6 hg6 hat6;obtain ⟨b0,b1,b3,b4,b5,b6,b7,b8⟩:=HF6.out.2.1.all_8;have g0:=HF6.out.2.1.fro 0;have g1:=HF6.out.2.1.fro 1;have g2:=HF6.out.2.1.fro 2;have g3:=HF6.out.2.1.fro 3;have g4:=HF6.out.2.1.fro 4;have g5:=HF6.out.2.1.fro 5;have g6:=HF6.out.2.1.fro 6;have g7:=HF6.out.2.1.fro 7)
      | (refine adt rfl (.tmp 21) (.tmp 23) 33 rfl 35 i0 _ 8 112 Tryz.underlying33 hi hz0 hzz1 hzz2 rfl (by decide) B (some ⟨w4.heap.size,0,none⟩) 1 _ rfl HO5.out.1 _ _ ys.length _ rfl (HO2.out.1.alloc _) (ai7 HO2.out.2.1) HC1.out HC2.out (Nat.le_trans HC3.out (by simp)) ?_;intro v3 w6 ho6 hg6 hat6;have HOW:=ke (call_row_b HO5.out HO2.out (by omega) (fun g hg=>by rcases hg with hg|hg<;>omega) HYL.out ho6 hg6 hat6);have HN3:=ke (not_two (a:=w.heap.size) hat6 hlt4 (Nat.lt_of_lt_of_le hlt4 (by simp)));have HF6:=ke (HF4.out.below (below_two hg6));obtain ⟨A3,cap3,rfl,_⟩:=abc ho6;clear ho6 hg6 hat6;obtain ⟨b0,b1,b3,b4,b5,b6,b7,b8⟩:=HF6.out.2.1.all_8;have g0:=HF6.out.2.1.fro 0;have g1:=HF6.out.2.1.fro 1;have g2:=HF6.out.2.1.fro 2;have g3:=HF6.out.2.1.fro 3;have g4:=HF6.out.2.1.fro 4;have g5:=HF6.out.2.1.fro 5;have g6:=HF6.out.2.1.fro 6;have g7:=HF6.out.2.1.fro 7)
      | (go_simp;go_wp2_with (go_at_call 136;refine (HA.out _ (by first|exact HFD.out.1.2|exact HFA.out.1.2)).mono ?_;rintro e w4 ⟨v2,ys,rfl,ho2,hby,hyl,hm⟩;obtain ⟨A2,cap2,rfl⟩:=ho2.form;have HO2:=ke ho2;have HYL:=ke hyl;have HBY:=ke hby;have HF4:Hid (BehQ K B w q2.2 x k n' tx nm ty A cap l w4):=ke (by first|exact HFD.out.move hm|exact HFA.out.move hm);have HC1:Hid (1+ys.length≤maxLen):=ke (by unfold maxLen;omega);have HC2:Hid ((1+ys.length) * 112≤140737488355328):=ke (by omega);have HC3:Hid (B≤w4.heap.size):=ke (by have:=HF4.out.2.2.2.2.2.2;have:=HF4.out.2.2.1.lt;omega);(try have HOA4:=ke (HOA.out.grown hm.1 hcB));have HO5:=ke HF4.out.one;obtain ⟨b0,b1,b3,b4,b5,b6,b7,b8⟩:=HF4.out.2.1.all_8;have hlt4:=HF4.out.2.2.1.lt;clear ho2 hby hyl hm)))
     all_goals
      obtain ⟨X,hX1,hX2⟩:=call_node (t:=t) HF4.out.2.2.2.1.bare HBY.out (.slice A3 (1+ys.length) cap3)
      have hk6:=HOW.out.node HN3.out 10 0 ⟨#[]⟩ t ⟨#[]⟩ ⟨Nat.zero_le _,htx,Nat.zero_le _⟩ hX1
      have e3:([Nd.ex k n' tx nm ty (.slice A l.length cap) l ⟨#[]⟩ 0] ++ ys).length=1+ys.length:=by simp;omega
      rw [← e3] at hk6
      have HF7:=ke (HF6.out.put hk6)
      rw [e3] at HF7
      have HX2:=ke hX2
      clear hX1 hX2 hk6 e3 a0 a1 a2 a3 a4 a5 a6 a7 b0 b1 b3 b4 b5 b6 b7 b8
      go_wp2_with fail
      go_roundw
      case rel =>
       refine ⟨X,q2.2,_,_,_,_,_,_,_,_,HF7.out,by omega,fun e=>by rw [HX2.out e];exact HRUN.out,fun e=>?_⟩
       obtain ⟨q6,hm6,hr6⟩:=HF7.out.1.2
       have hfb:=hr6.fb e
       rw [← HRUN.out,aec hfb];exact FlS.refl hfb
      case measure =>
       rw [hlf]
       by_cases e:q2.2.wc=0
       ·exact Nat.lt_of_le_of_lt (Nat.le_of_eq (HF7.out.1.2.lf.1 e)) (by omega)
       ·exact Nat.lt_of_le_of_lt (Nat.le_of_eq (HF7.out.1.2.lf.2 e)) (by omega)
    | false =>
     have hrun2:RX (.loopF (mkE 7 0 E0 t E0 [x])) s1=RR:=by
      rw [aib,hs1] at hrun
      simp only [if_true] at hrun
      rw [ahr,hs1e,hs2,htn] at hrun
      simpa [hdE] using hrun
     have HSO:Hid (∀ w',Rq K s1 w'→Calls Tryz.prog 22 #[.pointer (some ⟨K.c,0,none⟩),.string aah] w' fun e w''=>e=.returned (.bool false)∧w'=w''):=ke fun w' h'=>by
      have:=aa9 h' adl (by decide)
      rw [hs2] at this;exact this
     have HRUN:=ke hrun2
     clear hgood hbad hm hr hf hrun hrun2 TK hs1 hs2 hs1e htn HF0 HRR HIH
     go_wp2_with fail
     refine (HT1.out _ HF.out.1.2).mono ?_
     rintro e wa ⟨rfl,ha⟩
     have HFa:=ke (HF.out.move ha)
     clear ha
     go_wp2_with fail
     refine (HNM.out _ HFa.out.1.2).mono ?_
     rintro e wb ⟨rfl,hb⟩
     have HFb:=ke (HFa.out.move hb)
     clear hb
     go_wp2_with fail
     refine (HSO.out _ HFb.out.1.2).mono ?_
     rintro e wc ⟨rfl,rfl⟩
     obtain ⟨W6,hW6⟩:∃ W6,wb.alloc (.cells #[.int .i64 k,.int .i32 n',.string tx,.string nm,.string ty,.slice A l.length cap,.string ⟨#[]⟩,.int .i64 0] 35)=W6:=⟨_,rfl⟩
     have hb6:Below wb.heap.size wb W6:=by rw [← hW6];exact (Below.refl _ _).alloc (Nat.le_refl _) _
     have hltb:=HFb.out.2.2.1.lt
     have HO6:=ke (OwnZ.one HFb.out.2.2.2.1 (by omega))
     simp only [aab] at HO6
     rw [hW6] at HO6
     have HF6:=ke (HFb.out.below hb6)
     obtain ⟨p0,p1,p2,p3,p4,p5,p6,p7⟩:=HFb.out.2.1.all_8
     obtain ⟨s0,s1',s2,s3,s4,s5,s6,s7⟩:=HF6.out.2.1.all_8
     have g0:=HF6.out.2.1.fro 0;have g1:=HF6.out.2.1.fro 1;have g2:=HF6.out.2.1.fro 2;have g3:=HF6.out.2.1.fro 3;have g4:=HF6.out.2.1.fro 4;have g5:=HF6.out.2.1.fro 5;have g6:=HF6.out.2.1.fro 6;have g7:=HF6.out.2.1.fro 7
     have hn4:∀ g,(g=w.heap.size∨g=w.heap.size+1)→(Value.slice (some ⟨wb.heap.size,0,none⟩) 1 1).ownBlock≠some g:=by intro g hg;simp only [Value.ownBlock,ne_eq,Option.some.injEq];rcases hg with hg|hg<;>omega
     have hszz:(⟨#[]⟩:ByteArray).size≤maxLen∧t.size≤maxLen∧(⟨#[]⟩:ByteArray).size≤maxLen:=⟨Nat.zero_le _,htx,Nat.zero_le _⟩
     have HK6:=ke (HO6.out.node hn4 7 0 ⟨#[]⟩ t ⟨#[]⟩ hszz (x:=mkE 7 0 E0 t E0 [x]) (ab4 (acp HFb.out.2.2.2.1.bare) _ _ _ _ _))
     clear hb6 HT1 HNM HSO
     go_wp2_with fail
     have HF7:=ke (HF6.out.put (l:=[_]) HK6.out)
     go_roundw
     case rel =>
      refine ⟨_,s1,_,_,_,_,_,_,_,_,HF7.out,by omega,fun _=>HRUN.out,fun e=>?_⟩
      obtain ⟨q6,hm6,hr6⟩:=HF7.out.1.2
      have hfb:=hr6.fb e
      rw [← HRUN.out,aec hfb];exact FlS.refl hfb
     case measure =>
      rw [hlf]
      by_cases e:s1.wc=0
      ·exact Nat.lt_of_le_of_lt (Nat.le_of_eq (HF7.out.1.2.lf.1 e)) (by omega)
      ·exact Nat.lt_of_le_of_lt (Nat.le_of_eq (HF7.out.1.2.lf.2 e)) (by omega)
   | false =>
    have HT1:=ke (TK af5 fx_dot (by decide) hs1)
    cases hs2:s'.sees 0 sAs with
    | true =>
     obtain ⟨s1,hs1e⟩:∃ s1,s'.skip.class=s1:=⟨_,rfl⟩
     obtain ⟨cl,htn⟩:∃ t,s'.skip.classV=t:=⟨_,rfl⟩
     have hcl:cl.size≤maxLen:=by rw [← htn];exact ab7 _
     have HTY:Hid (∀ w',Rq K s' w'→Calls Tryz.prog 21 #[.pointer (some ⟨K.c,0,none⟩),.string sAs] w' fun e w''=>e=.returned (.bool true)∧Tq K s'.skip w' w''):=ke fun w' h'=>by
      have:=aes h' sAs fx_as (by decide)
      rw [hs2,afx hs2] at this
      exact this
     have HNM:Hid (∀ w',BehQ K B w s'.skip x k n' tx nm ty A cap l w'→Calls Tryz.prog 20 #[.pointer (some ⟨K.c,0,none⟩)] w' fun e w''=>e=.returned (.string cl)∧Tq K s1 w' w''∧BehQ K B w s1 x k n' tx nm ty A cap l w''):=ke fun w' h'=>by
      rw [← hs1e,← htn];exact (age h'.1.2).mono fun e w'' hh=>⟨hh.1,hh.2,h'.move hh.2⟩
     have h1:=aa5 hs2
     have h2:=aaf s'
     have h3:=aaz s'.skip
     rw [hs1e] at h3
     have hlf:=hf.1.2.lf.1 h0
     have hrun2:RX (.loopF (mkE 15 0 E0 E0 cl [x])) s1=RR:=by
      rw [aib] at hrun
      simp only [hs1,hs2,if_true,Bool.false_eq_true,if_false] at hrun
      rw [hs1e,htn] at hrun
      exact hrun
     have HRUN:=ke hrun2
     clear hgood hbad hm hr hf hrun hrun2 TK hs1 hs2 hs1e htn HF0 HRR HIH
     go_wp2_with fail
     refine (HT1.out _ HF.out.1.2).mono ?_
     rintro e wp0 ⟨rfl,ha⟩
     have HFp0:=ke (HF.out.move ha)
     clear ha
     go_wp2_with fail
     refine (HTY.out _ HFp0.out.1.2).mono ?_
     rintro e w3 ⟨rfl,ha⟩
     have HF2:=ke (HFp0.out.move ha)
     clear ha
     have HFD:Hid (BehQ K B w s'.skip x k n' tx nm ty A cap l w3.drew):=ke (HF2.out.below (Below.refl _ _).drew)
     have HFA:=ke (HFD.out.below ((Below.refl _ _).alloc (Nat.le_refl _) (.cells #[.int .i64 k,.int .i32 n',.string tx,.string nm,.string ty,.slice A l.length cap,.string ⟨#[]⟩,.int .i64 0] 35)))
     have HOA:=ke HFD.out.one
     obtain ⟨a0,a1,a2,a3,a4,a5,a6,a7⟩:=HF2.out.2.1.all_8
     have hlt3:w.heap.size+1 < w3.drew.heap.size:=HFD.out.2.2.1.lt
     clear HT1 HTY
     go_wp2_with fail
     go_region_with (go_at_call 20;refine (HNM.out _ (by first|exact HFD.out|exact HFA.out)).mono ?_;rintro e w4 ⟨rfl,hm,hf4⟩;have HMC:=ke hm;have HF4:=ke hf4;obtain ⟨W5,hW5⟩:∃ W5,w4.alloc (.cells #[.int .i64 k,.int .i32 n',.string tx,.string nm,.string ty,.slice A l.length cap,.string ⟨#[]⟩,.int .i64 0] 35)=W5:=⟨_,rfl⟩;have hb5:Below w4.heap.size w4 W5:=by { rw [← hW5];exact (Below.refl _ _).alloc (Nat.le_refl _) _ };have HF5:=ke (hf4.below hb5);have HO5:=ke hf4.one;rw [hW5] at HO5;obtain ⟨b0,b1,b3,b4,b5,b6,b7,b8⟩:=hf4.2.1.all_8;obtain ⟨r0,r1,r2,r3,r4,r5,r6,r7⟩:=HF5.out.2.1.all_8;have d0:=hf4.2.1.fro 0;have d1:=hf4.2.1.fro 1;have d2:=hf4.2.1.fro 2;have d3:=hf4.2.1.fro 3;have d4:=hf4.2.1.fro 4;have d5:=hf4.2.1.fro 5;have d6:=hf4.2.1.fro 6;have d7:=hf4.2.1.fro 7;have g0:=HF5.out.2.1.fro 0;have g1:=HF5.out.2.1.fro 1;have g2:=HF5.out.2.1.fro 2;have g3:=HF5.out.2.1.fro 3;have g4:=HF5.out.2.1.fro 4;have g5:=HF5.out.2.1.fro 5;have g6:=HF5.out.2.1.fro 6;have g7:=HF5.out.2.1.fro 7;have hlt4:=hf4.2.2.1.lt;clear hm hf4 hb5)
     all_goals
      have HK6:Hid (aaq (mkE 15 0 E0 E0 cl [x])=.ex 15 0 ⟨#[]⟩ ⟨#[]⟩ cl (.slice none 0 0) (aai [Nd.ex k n' tx nm ty (.slice A l.length cap) l ⟨#[]⟩ 0]) ⟨#[]⟩ 0):=ke (ab4 (acp HF2.out.2.2.2.1.bare) _ _ _ _ _)
      have hnA:∀ g,(g=w.heap.size∨g=w.heap.size+1)→(Value.slice (some ⟨w3.drew.heap.size,0,none⟩) 1 1).ownBlock≠some g:=by intro g hg;simp only [Value.ownBlock,ne_eq,Option.some.injEq];rcases hg with hg|hg<;>omega
      have hn4:∀ g,(g=w.heap.size∨g=w.heap.size+1)→(Value.slice (some ⟨w4.heap.size,0,none⟩) 1 1).ownBlock≠some g:=by intro g hg;simp only [Value.ownBlock,ne_eq,Option.some.injEq];rcases hg with hg|hg<;>omega
      have hszz:(⟨#[]⟩:ByteArray).size≤maxLen∧(⟨#[]⟩:ByteArray).size≤maxLen∧cl.size≤maxLen:=⟨Nat.zero_le _,Nat.zero_le _,hcl⟩
      clear a0 a1 a2 a3 a4 a5 a6 a7
      go_wp2_with fail
      first
       | (have hk6:=(HOA.out.grown HMC.out.1 hcB).node hnA 15 0 ⟨#[]⟩ ⟨#[]⟩ cl hszz HK6.out
          have HF7:=ke (HF4.out.put (l:=[_]) hk6)
          go_roundw
          case rel =>
           refine ⟨_,s1,_,_,_,_,_,_,_,_,HF7.out,by omega,fun _=>HRUN.out,fun e=>?_⟩
           obtain ⟨q6,hm6,hr6⟩:=HF7.out.1.2
           have hfb:=hr6.fb e
           rw [← HRUN.out,aec hfb];exact FlS.refl hfb
          case measure =>
           rw [hlf]
           by_cases e:s1.wc=0
           ·exact Nat.lt_of_le_of_lt (Nat.le_of_eq (HF7.out.1.2.lf.1 e)) (by omega)
           ·exact Nat.lt_of_le_of_lt (Nat.le_of_eq (HF7.out.1.2.lf.2 e)) (by omega))
       | (have hk6:=HO5.out.node hn4 15 0 ⟨#[]⟩ ⟨#[]⟩ cl hszz HK6.out
          have HF7:=ke (HF5.out.put (l:=[_]) hk6)
          go_roundw
          case rel =>
           refine ⟨_,s1,_,_,_,_,_,_,_,_,HF7.out,by omega,fun _=>HRUN.out,fun e=>?_⟩
           obtain ⟨q6,hm6,hr6⟩:=HF7.out.1.2
           have hfb:=hr6.fb e
           rw [← HRUN.out,aec hfb];exact FlS.refl hfb
          case measure =>
           rw [hlf]
           by_cases e:s1.wc=0
           ·exact Nat.lt_of_le_of_lt (Nat.le_of_eq (HF7.out.1.2.lf.1 e)) (by omega)
           ·exact Nat.lt_of_le_of_lt (Nat.le_of_eq (HF7.out.1.2.lf.2 e)) (by omega))
    | false =>
     have HT2:=ke (TK sAs fx_as (by decide) hs2)
     cases hs3:s'.sees 0 sIs with
     | true =>
      obtain ⟨s1,hs1e⟩:∃ s1,s'.skip.class=s1:=⟨_,rfl⟩
      obtain ⟨cl,htn⟩:∃ t,s'.skip.classV=t:=⟨_,rfl⟩
      have hcl:cl.size≤maxLen:=by rw [← htn];exact ab7 _
      have HTY:Hid (∀ w',Rq K s' w'→Calls Tryz.prog 21 #[.pointer (some ⟨K.c,0,none⟩),.string sIs] w' fun e w''=>e=.returned (.bool true)∧Tq K s'.skip w' w''):=ke fun w' h'=>by
       have:=aes h' sIs fx_is (by decide)
       rw [hs3,afx hs3] at this
       exact this
      have HNM:Hid (∀ w',BehQ K B w s'.skip x k n' tx nm ty A cap l w'→Calls Tryz.prog 20 #[.pointer (some ⟨K.c,0,none⟩)] w' fun e w''=>e=.returned (.string cl)∧Tq K s1 w' w''∧BehQ K B w s1 x k n' tx nm ty A cap l w''):=ke fun w' h'=>by
       rw [← hs1e,← htn];exact (age h'.1.2).mono fun e w'' hh=>⟨hh.1,hh.2,h'.move hh.2⟩
      have h1:=aa5 hs3
      have h2:=aaf s'
      have h3:=aaz s'.skip
      rw [hs1e] at h3
      have hlf:=hf.1.2.lf.1 h0
      have hrun2:RX (.loopF (mkE 16 0 E0 E0 cl [x])) s1=RR:=by
       rw [aib] at hrun
       simp only [hs1,hs2,hs3,if_true,Bool.false_eq_true,if_false] at hrun
       rw [hs1e,htn] at hrun
       exact hrun
      have HRUN:=ke hrun2
      clear hgood hbad hm hr hf hrun hrun2 TK hs1 hs2 hs3 hs1e htn HF0 HRR HIH
      go_wp2_with fail
      refine (HT1.out _ HF.out.1.2).mono ?_
      rintro e wp0 ⟨rfl,ha⟩
      have HFp0:=ke (HF.out.move ha)
      clear ha
      go_wp2_with fail
      refine (HT2.out _ HFp0.out.1.2).mono ?_
      rintro e wp1 ⟨rfl,ha⟩
      have HFp1:=ke (HFp0.out.move ha)
      clear ha
      go_wp2_with fail
      refine (HTY.out _ HFp1.out.1.2).mono ?_
      rintro e w3 ⟨rfl,ha⟩
      have HF2:=ke (HFp1.out.move ha)
      clear ha
      have HFD:Hid (BehQ K B w s'.skip x k n' tx nm ty A cap l w3.drew):=ke (HF2.out.below (Below.refl _ _).drew)
      have HFA:=ke (HFD.out.below ((Below.refl _ _).alloc (Nat.le_refl _) (.cells #[.int .i64 k,.int .i32 n',.string tx,.string nm,.string ty,.slice A l.length cap,.string ⟨#[]⟩,.int .i64 0] 35)))
      have HOA:=ke HFD.out.one
      obtain ⟨a0,a1,a2,a3,a4,a5,a6,a7⟩:=HF2.out.2.1.all_8
      have hlt3:w.heap.size+1 < w3.drew.heap.size:=HFD.out.2.2.1.lt
      clear HT1 HT2 HTY
      go_wp2_with fail
      go_region_with (go_at_call 20;refine (HNM.out _ (by first|exact HFD.out|exact HFA.out)).mono ?_;rintro e w4 ⟨rfl,hm,hf4⟩;have HMC:=ke hm;have HF4:=ke hf4;obtain ⟨W5,hW5⟩:∃ W5,w4.alloc (.cells #[.int .i64 k,.int .i32 n',.string tx,.string nm,.string ty,.slice A l.length cap,.string ⟨#[]⟩,.int .i64 0] 35)=W5:=⟨_,rfl⟩;have hb5:Below w4.heap.size w4 W5:=by { rw [← hW5];exact (Below.refl _ _).alloc (Nat.le_refl _) _ };have HF5:=ke (hf4.below hb5);have HO5:=ke hf4.one;rw [hW5] at HO5;obtain ⟨b0,b1,b3,b4,b5,b6,b7,b8⟩:=hf4.2.1.all_8;obtain ⟨r0,r1,r2,r3,r4,r5,r6,r7⟩:=HF5.out.2.1.all_8;have d0:=hf4.2.1.fro 0;have d1:=hf4.2.1.fro 1;have d2:=hf4.2.1.fro 2;have d3:=hf4.2.1.fro 3;have d4:=hf4.2.1.fro 4;have d5:=hf4.2.1.fro 5;have d6:=hf4.2.1.fro 6;have d7:=hf4.2.1.fro 7;have g0:=HF5.out.2.1.fro 0;have g1:=HF5.out.2.1.fro 1;have g2:=HF5.out.2.1.fro 2;have g3:=HF5.out.2.1.fro 3;have g4:=HF5.out.2.1.fro 4;have g5:=HF5.out.2.1.fro 5;have g6:=HF5.out.2.1.fro 6;have g7:=HF5.out.2.1.fro 7;have hlt4:=hf4.2.2.1.lt;clear hm hf4 hb5)
      all_goals
       have HK6:Hid (aaq (mkE 16 0 E0 E0 cl [x])=.ex 16 0 ⟨#[]⟩ ⟨#[]⟩ cl (.slice none 0 0) (aai [Nd.ex k n' tx nm ty (.slice A l.length cap) l ⟨#[]⟩ 0]) ⟨#[]⟩ 0):=ke (ab4 (acp HF2.out.2.2.2.1.bare) _ _ _ _ _)
       have hnA:∀ g,(g=w.heap.size∨g=w.heap.size+1)→(Value.slice (some ⟨w3.drew.heap.size,0,none⟩) 1 1).ownBlock≠some g:=by intro g hg;simp only [Value.ownBlock,ne_eq,Option.some.injEq];rcases hg with hg|hg<;>omega
       have hn4:∀ g,(g=w.heap.size∨g=w.heap.size+1)→(Value.slice (some ⟨w4.heap.size,0,none⟩) 1 1).ownBlock≠some g:=by intro g hg;simp only [Value.ownBlock,ne_eq,Option.some.injEq];rcases hg with hg|hg<;>omega
       have hszz:(⟨#[]⟩:ByteArray).size≤maxLen∧(⟨#[]⟩:ByteArray).size≤maxLen∧cl.size≤maxLen:=⟨Nat.zero_le _,Nat.zero_le _,hcl⟩
       clear a0 a1 a2 a3 a4 a5 a6 a7
       go_wp2_with fail
       first
        | (have hk6:=(HOA.out.grown HMC.out.1 hcB).node hnA 16 0 ⟨#[]⟩ ⟨#[]⟩ cl hszz HK6.out
           have HF7:=ke (HF4.out.put (l:=[_]) hk6)
           go_roundw
           case rel =>
            refine ⟨_,s1,_,_,_,_,_,_,_,_,HF7.out,by omega,fun _=>HRUN.out,fun e=>?_⟩
            obtain ⟨q6,hm6,hr6⟩:=HF7.out.1.2
            have hfb:=hr6.fb e
            rw [← HRUN.out,aec hfb];exact FlS.refl hfb
           case measure =>
            rw [hlf]
            by_cases e:s1.wc=0
            ·exact Nat.lt_of_le_of_lt (Nat.le_of_eq (HF7.out.1.2.lf.1 e)) (by omega)
            ·exact Nat.lt_of_le_of_lt (Nat.le_of_eq (HF7.out.1.2.lf.2 e)) (by omega))
        | (have hk6:=HO5.out.node hn4 16 0 ⟨#[]⟩ ⟨#[]⟩ cl hszz HK6.out
           have HF7:=ke (HF5.out.put (l:=[_]) hk6)
           go_roundw
           case rel =>
            refine ⟨_,s1,_,_,_,_,_,_,_,_,HF7.out,by omega,fun _=>HRUN.out,fun e=>?_⟩
            obtain ⟨q6,hm6,hr6⟩:=HF7.out.1.2
            have hfb:=hr6.fb e
            rw [← HRUN.out,aec hfb];exact FlS.refl hfb
           case measure =>
            rw [hlf]
            by_cases e:s1.wc=0
            ·exact Nat.lt_of_le_of_lt (Nat.le_of_eq (HF7.out.1.2.lf.1 e)) (by omega)
            ·exact Nat.lt_of_le_of_lt (Nat.le_of_eq (HF7.out.1.2.lf.2 e)) (by omega))
     | false =>
      have HT3:=ke (TK sIs fx_is (by decide) hs3)
      have hR:RR=([x],s'):=by rw [← hrun];exact loopF_none hs1 hs2 hs3 x
      have HEX:Hid (RR.2.wc=0→aaq x=aaq (hdE RR.1)):=ke fun _=>by rw [hR];rfl
      have HTQ:Hid (∀ w',Tq K s' w w'→Tq K RR.2 w w'):=ke fun w' hq=>by rw [hR];exact hq
      clear hgood hbad hm hr hf hrun hR TK hs1 hs2 hs3 HF0
      go_wp2_with fail
      refine (HT1.out _ HF.out.1.2).mono ?_
      rintro e wa ⟨rfl,ha⟩
      have HFa:=ke (HF.out.move ha)
      clear ha
      go_wp2_with fail
      refine (HT2.out _ HFa.out.1.2).mono ?_
      rintro e wb ⟨rfl,hb⟩
      have HFb:=ke (HFa.out.move hb)
      clear hb
      go_wp2_with fail
      refine (HT3.out _ HFb.out.1.2).mono ?_
      rintro e wc ⟨rfl,hc⟩
      have HFc:=ke (HFb.out.move hc)
      clear hc
      obtain ⟨r0,r1,r2,r3,r4,r5,r6,r7⟩:=HFc.out.2.2.1.all_8
      have g0:=HFc.out.2.2.1.fro 0;have g1:=HFc.out.2.2.1.fro 1;have g2:=HFc.out.2.2.1.fro 2;have g3:=HFc.out.2.2.1.fro 3;have g4:=HFc.out.2.2.1.fro 4;have g5:=HFc.out.2.2.1.fro 5;have g6:=HFc.out.2.2.1.fro 6;have g7:=HFc.out.2.2.1.fro 7
      obtain ⟨a0,a1,a2,a3,a4,a5,a6,a7⟩:=HFc.out.2.1.all_8
      go_wp2_with fail
      obtain ⟨z0,z1,z2,z3,z4,z5,z6,z7⟩:=(HFc.out.2.2.1.to_8 (.int .i64 k) (.int .i32 n') (.string tx) (.string nm) (.string ty) (.slice A l.length cap) (.string ⟨#[]⟩) (.int .i64 0)).all_8
      have HG:=ke (aaw wc (w.heap.size+1) (.int .i64 k) (.int .i32 n') (.string tx) (.string nm) (.string ty) (.slice A l.length cap) (.string ⟨#[]⟩) (.int .i64 0))
      (try simp only [Exit.inBlock,Exit.then])
      refine bodyPost_ret (v:=.agg #[.int .i64 k,.int .i32 n',.string tx,.string nm,.string ty,.slice A l.length cap,.string ⟨#[]⟩,.int .i64 0]) (by simp [results,Tryz.results144,go_sem,z0,z1,z2,z3,z4,z5,z6,z7]) rfl ?_
      exact ⟨x,_,rfl,(HFc.out.2.2.2.1.grown HG.out (.inr (.inr rfl))).free,HEX.out,HTQ.out _ (HFc.out.1.row HG.out (fun k e=>by injection e with e;omega) hlt hle0)⟩
  ·have hb0:¬ q.bd=0:=by rw [hr.bad];exact h0
   have hb1:(q.bd == (0:Int))=false:=by simpa using hb0
   have hb2:decide (q.bd=(0:Int))=false:=decide_eq_false hb0
   have hfl:=hbad h0
   have hfb:=hr.fb h0
   have HEX:Hid (RR.2.wc=0→aaq x=aaq (hdE RR.1)):=ke fun e=>absurd (by rw [← hfl.1];exact e) h0
   have HTQ:Hid (∀ w',Tq K s' w w'→Tq K RR.2 w w'):=ke fun w' hq=>by
    obtain ⟨hg,q1,hm1,hr1⟩:=hq
    exact ⟨hg,q1,hm1,hr1.fl hfb hfl⟩
   obtain ⟨r0,r1,r2,r3,r4,r5,r6,r7⟩:=HF.out.2.2.1.all_8
   have g0:=HF.out.2.2.1.fro 0;have g1:=HF.out.2.2.1.fro 1;have g2:=HF.out.2.2.1.fro 2;have g3:=HF.out.2.2.1.fro 3;have g4:=HF.out.2.2.1.fro 4;have g5:=HF.out.2.2.1.fro 5;have g6:=HF.out.2.2.1.fro 6;have g7:=HF.out.2.2.1.fro 7
   obtain ⟨a0,a1,a2,a3,a4,a5,a6,a7⟩:=HF.out.2.1.all_8
   clear hgood hbad hm hr hf hfl hfb HF0
   go_wp2_with fail
   obtain ⟨z0,z1,z2,z3,z4,z5,z6,z7⟩:=(HF.out.2.2.1.to_8 (.int .i64 k) (.int .i32 n') (.string tx) (.string nm) (.string ty) (.slice A l.length cap) (.string ⟨#[]⟩) (.int .i64 0)).all_8
   have HG:=ke (aaw wr (w.heap.size+1) (.int .i64 k) (.int .i32 n') (.string tx) (.string nm) (.string ty) (.slice A l.length cap) (.string ⟨#[]⟩) (.int .i64 0))
   (try simp only [Exit.inBlock,Exit.then])
   refine bodyPost_ret (v:=.agg #[.int .i64 k,.int .i32 n',.string tx,.string nm,.string ty,.slice A l.length cap,.string ⟨#[]⟩,.int .i64 0]) (by simp [results,Tryz.results144,go_sem,z0,z1,z2,z3,z4,z5,z6,z7]) rfl ?_
   exact ⟨x,_,rfl,(HF.out.2.2.2.1.grown HG.out (.inr (.inr rfl))).free,HEX.out,HTQ.out _ (HF.out.1.row HG.out (fun k e=>by injection e with e;omega) hlt hle0)⟩
end
section
open Go.RowKit
def AtQ (K:QC) (w:World) (s:RS) (w':World):Prop :=
 Tq K s w w'∧Bx w' w.heap.size #[.int .i64 0,.int .i32 0,.string ⟨#[]⟩,.string ⟨#[]⟩,.string ⟨#[]⟩,.slice none 0 0,.string ⟨#[]⟩,.int .i64 0] 35∧K.c < w.heap.size∧K.W0.heap.size≤w.heap.size
section
variable {K:QC} {w w' w'':World} {s s2:RS}
theorem AtQ.start (h:Rq K s w):AtQ K w s (w.alloc (.cells #[.int .i64 0,.int .i32 0,.string ⟨#[]⟩,.string ⟨#[]⟩,.string ⟨#[]⟩,.slice none 0 0,.string ⟨#[]⟩,.int .i64 0] 35)) :=
 ⟨Tq.below h ((Below.refl _ w).alloc (Nat.le_refl _) _),Bx.new _ _ _,h.lt,h.le⟩
theorem AtQ.move (h:AtQ K w s w') (hm:Tq K s2 w' w''):AtQ K w s2 w'':=⟨h.1.trans hm,h.2.1.grown hm.1 (by have:=h.2.2.1;omega),h.2.2⟩
theorem AtQ.below (h:AtQ K w s w') (hb:Below w'.heap.size w' w''):AtQ K w s w'':=⟨h.1.trans (Tq.below h.1.2 hb),h.2.1.next hb,h.2.2⟩
theorem leafQ (B:Nat) (w:World) (k n:Int) (tx nm ty:ByteArray) (hs:tx.size≤maxLen∧nm.size≤maxLen∧ty.size≤maxLen):ExK B none w (mkE k n tx nm ty []) (.ex k n tx nm ty (.slice none 0 0) [] ⟨#[]⟩ 0) :=
 ⟨k,n,tx,nm,ty,none,0,[],rfl,hs,fun ws _=>(FkL.nil B ws .ex).now,rfl⟩
theorem AtQ.leaf (h:AtQ K w s w') (k n:Int) (tx nm ty:ByteArray) (hs:tx.size≤maxLen∧nm.size≤maxLen∧ty.size≤maxLen) {r:List Nd×RS} (hr:r=([mkE k n tx nm ty []],s)) :
 ExQ K w r (.returned (.agg #[.int .i64 k,.int .i32 n,.string tx,.string nm,.string ty,.slice none 0 0,.string ⟨#[]⟩,.int .i64 0])) ((((((((w'.setCell ⟨w.heap.size,0,none⟩ (.int .i64 k)).setCell ⟨w.heap.size,1,none⟩ (.int .i32 n)).setCell ⟨w.heap.size,2,none⟩ (.string tx)).setCell ⟨w.heap.size,3,none⟩ (.string nm)).setCell ⟨w.heap.size,4,none⟩ (.string ty)).setCell ⟨w.heap.size,5,none⟩ (.slice none 0 0)).setCell ⟨w.heap.size,6,none⟩ (.string ⟨#[]⟩)).setCell ⟨w.heap.size,7,none⟩ (.int .i64 0)):=by
 subst hr
 have hg:=aaw w' w.heap.size (.int .i64 k) (.int .i32 n) (.string tx) (.string nm) (.string ty) (.slice none 0 0) (.string ⟨#[]⟩) (.int .i64 0)
 exact ⟨mkE k n tx nm ty [],.ex k n tx nm ty (.slice none 0 0) [] ⟨#[]⟩ 0,rfl,leafQ _ _ _ _ _ _ _ hs,fun _=>rfl,h.1.row hg (fun i e=>by injection e with e;omega) h.2.2.1 h.2.2.2⟩
theorem AtQ.cells (h:AtQ K w s w'):(w'.cell? ⟨w.heap.size,0,none⟩=some (.int .i64 0)∧w'.cell? ⟨w.heap.size,1,none⟩=some (.int .i32 0)∧w'.cell? ⟨w.heap.size,2,none⟩=some (.string ⟨#[]⟩)∧w'.cell? ⟨w.heap.size,3,none⟩=some (.string ⟨#[]⟩)∧w'.cell? ⟨w.heap.size,4,none⟩=some (.string ⟨#[]⟩)∧w'.cell? ⟨w.heap.size,5,none⟩=some (.slice none 0 0)∧w'.cell? ⟨w.heap.size,6,none⟩=some (.string ⟨#[]⟩)∧w'.cell? ⟨w.heap.size,7,none⟩=some (.int .i64 0)):=h.2.1.all_8
end
theorem atom_num (K:QC) (s:RS) (w:World) (h:Rq K s w) (hT:∀ q,Qm K q w→Rel K.L K.n q s→isQ K.L q 0 2 ⟨#[]⟩=true) (hR:RX .atom s=([mkE 1 (s.numR 2147483647) E0 E0 E0 []],s.num 2147483647)):Calls Tryz.prog 145 #[.pointer (some ⟨K.c,0,none⟩)] w (ExQ K w (RX .atom s)):=by
 have HA0:=ke (AtQ.start h)
 obtain ⟨q,hm,hr⟩:=h
 have HT:=ke (hT q hm hr)
 have HM:=ke hm
 have HRL:=ke hr
 rw [hR]
 obtain ⟨nv,hnv⟩:∃ v,s.numR 2147483647=v:=⟨_,rfl⟩
 obtain ⟨s1,hs1⟩:∃ t,s.num 2147483647=t:=⟨_,rfl⟩
 have HN:Hid (∀ w',Rq K s w'→Calls Tryz.prog 135 #[.pointer (some ⟨K.c,0,none⟩),.int .i64 2147483647] w' fun e w''=>e=.returned (.int .i32 nv)∧Tq K s1 w' w''):=ke fun w' h'=>by rw [← hnv,← hs1];exact qnumber_any h' 2147483647 (by decide) (by decide)
 rw [hnv,hs1]
 have hb:Below w.heap.size w (w.alloc (.cells #[.int .i64 0,.int .i32 0,.string ⟨#[]⟩,.string ⟨#[]⟩,.string ⟨#[]⟩,.slice none 0 0,.string ⟨#[]⟩,.int .i64 0] 35)):=(Below.refl _ w).alloc (Nat.le_refl _) _
 have HI:=ke (ai3 (hm.below hb) 0 2 ⟨#[]⟩ (by omega) (by omega))
 rw [HT.out] at HI
 clear hT hm hr hR hnv hs1 hb
 go_enter Tryz.func145,Tryz.ntmps145
 go_wp2_with (first
  | (go_at_call 49;refine HI.out.mono ?_;rintro e w1 ⟨rfl,rfl⟩)
  | (go_at_call 135;refine (HN.out _ HA0.out.1.2).mono ?_;rintro e w2 ⟨rfl,hm2⟩;have HA1:=ke (HA0.out.move hm2);obtain ⟨r0,r1,r2,r3,r4,r5,r6,r7⟩:=HA1.out.cells;have g0:=HA1.out.2.1.fro 0;have g1:=HA1.out.2.1.fro 1;have g2:=HA1.out.2.1.fro 2;have g3:=HA1.out.2.1.fro 3;have g4:=HA1.out.2.1.fro 4;have g5:=HA1.out.2.1.fro 5;have g6:=HA1.out.2.1.fro 6;have g7:=HA1.out.2.1.fro 7;clear hm2))
 obtain ⟨z0,z1,z2,z3,z4,z5,z6,z7⟩:=(HA1.out.2.1.to_8 (.int .i64 1) (.int .i32 nv) (.string ⟨#[]⟩) (.string ⟨#[]⟩) (.string ⟨#[]⟩) (.slice none 0 0) (.string ⟨#[]⟩) (.int .i64 0)).all_8
 (try simp only [Exit.inBlock,Exit.then])
 refine bodyPost_ret (v:=.agg #[.int .i64 1,.int .i32 nv,.string ⟨#[]⟩,.string ⟨#[]⟩,.string ⟨#[]⟩,.slice none 0 0,.string ⟨#[]⟩,.int .i64 0]) (by simp [results,Tryz.results145,go_sem,z0,z1,z2,z3,z4,z5,z6,z7]) rfl ?_
 exact HA1.out.leaf 1 nv ⟨#[]⟩ ⟨#[]⟩ ⟨#[]⟩ ⟨Nat.zero_le _,Nat.zero_le _,Nat.zero_le _⟩ rfl
end
section
open Go.RowKit
def afp (K:QC) (s:RS) (a2 a3 an ac:Bool):Prop:=∀ q,Rel K.L K.n q s→isQ K.L q 0 2 ⟨#[]⟩=a2∧isQ K.L q 0 3 ⟨#[]⟩=a3∧(nmQ K.L q 0).isSome=an∧(clQ K.L q 0).isSome=ac
section
variable {K:QC} {w:World} {s:RS} {a2 a3 an ac:Bool}
theorem adz (hk:afp K s a2 a3 an ac) (h:Rq K s w):Calls Tryz.prog 49 #[.pointer (some ⟨K.c,0,none⟩),.int .i64 0,.int .i64 2,.string ⟨#[]⟩] w fun e w'=>e=.returned (.bool a2)∧w=w':=by
 obtain ⟨q,hm,hr⟩:=h
 have:=ai3 hm 0 2 ⟨#[]⟩ (by omega) (by omega)
 rw [(hk q hr).1] at this;exact this
theorem ady (hk:afp K s a2 a3 an ac) (h:Rq K s w):Calls Tryz.prog 49 #[.pointer (some ⟨K.c,0,none⟩),.int .i64 0,.int .i64 3,.string ⟨#[]⟩] w fun e w'=>e=.returned (.bool a3)∧w=w':=by
 obtain ⟨q,hm,hr⟩:=h
 have:=ai3 hm 0 3 ⟨#[]⟩ (by omega) (by omega)
 rw [(hk q hr).2.1] at this;exact this
theorem agv (hk:afp K s a2 a3 an ac) (h:Rq K s w):Calls Tryz.prog 89 #[.pointer (some ⟨K.c,0,none⟩),.int .i64 0] w fun e w'=>e=.returned (.bool an)∧Tq K s w w':=by
 have h0:=h
 obtain ⟨q,hm,hr⟩:=h
 have:=isName_any hm 0 (by omega)
 rw [(hk q hr).2.2.1] at this
 exact this.mono fun e w' hh=>⟨hh.1,Tq.below h0 hh.2⟩
theorem ai4 (hk:afp K s a2 a3 an ac) (h:Rq K s w):Calls Tryz.prog 46 #[.pointer (some ⟨K.c,0,none⟩),.int .i64 0] w fun e w'=>e=.returned (.bool ac)∧Tq K s w w':=by
 have h0:=h
 obtain ⟨q,hm,hr⟩:=h
 have:=isClass_any hm 0 (by omega)
 rw [(hk q hr).2.2.2] at this
 exact this.mono fun e w' hh=>⟨hh.1,Tq.below h0 hh.2⟩
theorem aam (h:Rq K s w) {p:ByteArray} (hp:ajh p) (hne:p.data.toList≠[]) {b:Bool} (hb:s.sees 0 p=b) {t:RS} (ht:s.take p=t):Calls Tryz.prog 21 #[.pointer (some ⟨K.c,0,none⟩),.string p] w fun e w'=>e=.returned (.bool b)∧Tq K t w w':=by
 have:=aes h p hp hne
 rw [hb,ht] at this;exact this
theorem ac0 (hk:afp K s a2 false an ac) {q:QS} (hr:Rel K.L K.n q s) (hb:q.bd=0) {x:Wd} (hx:K.L[q.k]?=some x):x.k≠3:=by
 have:=(hk q hr).2.1
 unfold isQ at this
 rw [Nat.add_zero,hx,hb] at this
 intro e
 simp [e] at this
end
theorem atom_true (K:QC) (s:RS) (w:World) (h:Rq K s w) (hk:afp K s false false false false) (e0:s.sees 0 acy=true) (hR:RX .atom s=([mkE 2 1 E0 E0 E0 []],s.skip)):Calls Tryz.prog 145 #[.pointer (some ⟨K.c,0,none⟩)] w (ExQ K w (RX .atom s)):=by
 rw [hR]
 clear hR
 have HA0:=ke (AtQ.start h)
 have HI2:=ke (adz hk HA0.out.1.2)
 obtain ⟨q,hm,hr⟩:=HA0.out.1.2
 have HNT:=ke (fun hb x hx=>ac0 hk hr hb (x:=x) hx)
 obtain ⟨c0,_,c2,c3,_,_⟩:=hm.cells
 have hfew:=hm.few
 have HM:=ke hm
 obtain ⟨W1,hW1⟩:∃ W1,W1=w.alloc (.cells #[.int .i64 0,.int .i32 0,.string ⟨#[]⟩,.string ⟨#[]⟩,.string ⟨#[]⟩,.slice none 0 0,.string ⟨#[]⟩,.int .i64 0] 35):=⟨_,rfl⟩
 rw [← hW1] at HA0 HI2 HM c0 c2 c3
 have HI3:=ke (fun (w':World) (hb:Below W1.heap.size W1 w')=>ady hk (HA0.out.below hb).1.2)
 have HW1:=ke hW1
 clear hm hr hW1
 go_enter Tryz.func145,Tryz.ntmps145
 go_upto_region 1 with (fail)
 rw [← HW1.out]
 go_upto_region 3 with (go_at_call 49;refine HI2.out.mono ?_;rintro e w1 ⟨rfl,rfl⟩)
 go_cut [15] from 16 to 50 (fun v15 wx=>v15=.bool false∧AtQ K w s wx)
 case first =>
  by_cases hb:q.bd=0
  ·by_cases hl:q.k < K.L.length
   ·obtain ⟨x,hx⟩:∃ x,K.L[q.k]?=some x:=⟨K.L[q.k]'hl,List.getElem?_eq_getElem _⟩
    have hx3:=HNT.out hb x hx
    obtain ⟨gw,ow,hA,d0,_,_⟩:=HM.out.word hx
    rw [hA] at c0
    have hx4:((x.k:Int) == 3)=false:=by rw [beq_eq_false_iff_ne];omega
    have hl2:(q.k:Int) < K.L.length:=by omega
    have hl3:decide ((q.k:Int) < K.L.length)=true:=decide_eq_true hl2
    have hl4:decide (q.k < K.L.length)=true:=decide_eq_true hl
    have hz0:(0:Int)≤q.k:=by omega
    rw [hb] at c3
    clear hx hA hb hx3
    go_quiet ((go_at_call 49;exact Calls.quiet_of_same ((HI3.out _ (by first|exact Below.refl _ _|exact below_drewN (Below.refl _ _) _)).mono fun e w' hh=>⟨hh.1,hh.2.symm⟩)))
    (try go_wp2_with fail)
    go_meet
    case rel=>exact ⟨rfl,HA0.out.below (below_drewN (Below.refl _ _) _)⟩
   ·have hl2:¬ (q.k:Int) < K.L.length:=by omega
    have hl3:decide ((q.k:Int) < K.L.length)=false:=decide_eq_false hl2
    have hl4:decide (q.k < K.L.length)=false:=decide_eq_false hl
    rw [hb] at c3
    clear hb
    go_quiet ((go_at_call 49;exact Calls.quiet_of_same ((HI3.out _ (by first|exact Below.refl _ _|exact below_drewN (Below.refl _ _) _)).mono fun e w' hh=>⟨hh.1,hh.2.symm⟩)))
    (try go_wp2_with fail)
    go_meet
    case rel=>exact ⟨rfl,HA0.out.below (below_drewN (Below.refl _ _) _)⟩
  ·have hb1:(q.bd == (0:Int))=false:=by simpa using hb
   have hb2:decide (q.bd=(0:Int))=false:=decide_eq_false hb
   clear hb
   go_quiet ((go_at_call 49;exact Calls.quiet_of_same ((HI3.out _ (by first|exact Below.refl _ _|exact below_drewN (Below.refl _ _) _)).mono fun e w' hh=>⟨hh.1,hh.2.symm⟩)))
   (try go_wp2_with fail)
   go_meet
   case rel=>exact ⟨rfl,HA0.out.below (below_drewN (Below.refl _ _) _)⟩
 case rest =>
  obtain ⟨rfl,hA⟩:=hcut
  have HA:=ke hA
  clear hA c0 c2 c3 HI2 HI3 HNT HM HA0 HW1
  go_wp2_with fail
  refine (aam HA.out.1.2 aee (by decide) e0 (afx e0)).mono ?_
  rintro e wn ⟨rfl,hmn⟩
  have HAn:=ke (HA.out.move hmn)
  clear hmn HA
  have HA:=HAn
  clear HAn
  obtain ⟨r0,r1,r2,r3,r4,r5,r6,r7⟩:=HA.out.cells
  have g0:=HA.out.2.1.fro 0
  have g1:=HA.out.2.1.fro 1
  have g2:=HA.out.2.1.fro 2
  have g3:=HA.out.2.1.fro 3
  have g4:=HA.out.2.1.fro 4
  have g5:=HA.out.2.1.fro 5
  have g6:=HA.out.2.1.fro 6
  have g7:=HA.out.2.1.fro 7
  obtain ⟨z0,z1,z2,z3,z4,z5,z6,z7⟩:=(HA.out.2.1.to_8 (.int .i64 2) (.int .i32 1) (.string ⟨#[]⟩) (.string ⟨#[]⟩) (.string ⟨#[]⟩) (.slice none 0 0) (.string ⟨#[]⟩) (.int .i64 0)).all_8
  go_wp2_with fail
  (try simp only [Exit.inBlock,Exit.then])
  refine bodyPost_ret (v:=.agg #[.int .i64 2,.int .i32 1,.string ⟨#[]⟩,.string ⟨#[]⟩,.string ⟨#[]⟩,.slice none 0 0,.string ⟨#[]⟩,.int .i64 0]) (by simp [results,Tryz.results145,go_sem,z0,z1,z2,z3,z4,z5,z6,z7]) rfl ?_
  exact HA.out.leaf 2 1 ⟨#[]⟩ ⟨#[]⟩ ⟨#[]⟩ ⟨Nat.zero_le _,Nat.zero_le _,Nat.zero_le _⟩ rfl
theorem atom_false (K:QC) (s:RS) (w:World) (h:Rq K s w) (hk:afp K s false false false false) (e0:s.sees 0 acy=false) (e1:s.sees 0 abq=true) (hR:RX .atom s=([mkE 2 0 E0 E0 E0 []],s.skip)):Calls Tryz.prog 145 #[.pointer (some ⟨K.c,0,none⟩)] w (ExQ K w (RX .atom s)):=by
 rw [hR]
 clear hR
 have HA0:=ke (AtQ.start h)
 have HI2:=ke (adz hk HA0.out.1.2)
 obtain ⟨q,hm,hr⟩:=HA0.out.1.2
 have HNT:=ke (fun hb x hx=>ac0 hk hr hb (x:=x) hx)
 obtain ⟨c0,_,c2,c3,_,_⟩:=hm.cells
 have hfew:=hm.few
 have HM:=ke hm
 obtain ⟨W1,hW1⟩:∃ W1,W1=w.alloc (.cells #[.int .i64 0,.int .i32 0,.string ⟨#[]⟩,.string ⟨#[]⟩,.string ⟨#[]⟩,.slice none 0 0,.string ⟨#[]⟩,.int .i64 0] 35):=⟨_,rfl⟩
 rw [← hW1] at HA0 HI2 HM c0 c2 c3
 have HI3:=ke (fun (w':World) (hb:Below W1.heap.size W1 w')=>ady hk (HA0.out.below hb).1.2)
 have HW1:=ke hW1
 clear hm hr hW1
 go_enter Tryz.func145,Tryz.ntmps145
 go_upto_region 1 with (fail)
 rw [← HW1.out]
 go_upto_region 3 with (go_at_call 49;refine HI2.out.mono ?_;rintro e w1 ⟨rfl,rfl⟩)
 go_cut [15] from 16 to 50 (fun v15 wx=>v15=.bool false∧AtQ K w s wx)
 case first =>
  by_cases hb:q.bd=0
  ·by_cases hl:q.k < K.L.length
   ·obtain ⟨x,hx⟩:∃ x,K.L[q.k]?=some x:=⟨K.L[q.k]'hl,List.getElem?_eq_getElem _⟩
    have hx3:=HNT.out hb x hx
    obtain ⟨gw,ow,hA,d0,_,_⟩:=HM.out.word hx
    rw [hA] at c0
    have hx4:((x.k:Int) == 3)=false:=by rw [beq_eq_false_iff_ne];omega
    have hl2:(q.k:Int) < K.L.length:=by omega
    have hl3:decide ((q.k:Int) < K.L.length)=true:=decide_eq_true hl2
    have hl4:decide (q.k < K.L.length)=true:=decide_eq_true hl
    have hz0:(0:Int)≤q.k:=by omega
    rw [hb] at c3
    clear hx hA hb hx3
    go_quiet ((go_at_call 49;exact Calls.quiet_of_same ((HI3.out _ (by first|exact Below.refl _ _|exact below_drewN (Below.refl _ _) _)).mono fun e w' hh=>⟨hh.1,hh.2.symm⟩)))
    (try go_wp2_with fail)
    go_meet
    case rel=>exact ⟨rfl,HA0.out.below (below_drewN (Below.refl _ _) _)⟩
   ·have hl2:¬ (q.k:Int) < K.L.length:=by omega
    have hl3:decide ((q.k:Int) < K.L.length)=false:=decide_eq_false hl2
    have hl4:decide (q.k < K.L.length)=false:=decide_eq_false hl
    rw [hb] at c3
    clear hb
    go_quiet ((go_at_call 49;exact Calls.quiet_of_same ((HI3.out _ (by first|exact Below.refl _ _|exact below_drewN (Below.refl _ _) _)).mono fun e w' hh=>⟨hh.1,hh.2.symm⟩)))
    (try go_wp2_with fail)
    go_meet
    case rel=>exact ⟨rfl,HA0.out.below (below_drewN (Below.refl _ _) _)⟩
  ·have hb1:(q.bd == (0:Int))=false:=by simpa using hb
   have hb2:decide (q.bd=(0:Int))=false:=decide_eq_false hb
   clear hb
   go_quiet ((go_at_call 49;exact Calls.quiet_of_same ((HI3.out _ (by first|exact Below.refl _ _|exact below_drewN (Below.refl _ _) _)).mono fun e w' hh=>⟨hh.1,hh.2.symm⟩)))
   (try go_wp2_with fail)
   go_meet
   case rel=>exact ⟨rfl,HA0.out.below (below_drewN (Below.refl _ _) _)⟩
 case rest =>
  obtain ⟨rfl,hA⟩:=hcut
  have HA:=ke hA
  clear hA c0 c2 c3 HI2 HI3 HNT HM HA0 HW1
  go_wp2_with fail
  refine (aam HA.out.1.2 aee (by decide) e0 (aas e0)).mono ?_
  rintro e wn ⟨rfl,hmn⟩
  have HAn:=ke (HA.out.move hmn)
  clear hmn HA
  have HA:=HAn
  clear HAn
  go_wp2_with fail
  refine (aam HA.out.1.2 adf (by decide) e1 (afx e1)).mono ?_
  rintro e wn ⟨rfl,hmn⟩
  have HAn:=ke (HA.out.move hmn)
  clear hmn HA
  have HA:=HAn
  clear HAn
  obtain ⟨r0,r1,r2,r3,r4,r5,r6,r7⟩:=HA.out.cells
  have g0:=HA.out.2.1.fro 0
  have g1:=HA.out.2.1.fro 1
  have g2:=HA.out.2.1.fro 2
  have g3:=HA.out.2.1.fro 3
  have g4:=HA.out.2.1.fro 4
  have g5:=HA.out.2.1.fro 5
  have g6:=HA.out.2.1.fro 6
  have g7:=HA.out.2.1.fro 7
  obtain ⟨z0,z1,z2,z3,z4,z5,z6,z7⟩:=(HA.out.2.1.to_8 (.int .i64 2) (.int .i32 0) (.string ⟨#[]⟩) (.string ⟨#[]⟩) (.string ⟨#[]⟩) (.slice none 0 0) (.string ⟨#[]⟩) (.int .i64 0)).all_8
  go_wp2_with fail
  (try simp only [Exit.inBlock,Exit.then])
  refine bodyPost_ret (v:=.agg #[.int .i64 2,.int .i32 0,.string ⟨#[]⟩,.string ⟨#[]⟩,.string ⟨#[]⟩,.slice none 0 0,.string ⟨#[]⟩,.int .i64 0]) (by simp [results,Tryz.results145,go_sem,z0,z1,z2,z3,z4,z5,z6,z7]) rfl ?_
  exact HA.out.leaf 2 0 ⟨#[]⟩ ⟨#[]⟩ ⟨#[]⟩ ⟨Nat.zero_le _,Nat.zero_le _,Nat.zero_le _⟩ rfl
theorem atom_null (K:QC) (s:RS) (w:World) (h:Rq K s w) (hk:afp K s false false false false) (e0:s.sees 0 acy=false) (e1:s.sees 0 abq=false) (e2:s.sees 0 adv=true) (hR:RX .atom s=([mkE 4 0 E0 E0 E0 []],s.skip)):Calls Tryz.prog 145 #[.pointer (some ⟨K.c,0,none⟩)] w (ExQ K w (RX .atom s)):=by
 rw [hR]
 clear hR
 have HA0:=ke (AtQ.start h)
 have HI2:=ke (adz hk HA0.out.1.2)
 obtain ⟨q,hm,hr⟩:=HA0.out.1.2
 have HNT:=ke (fun hb x hx=>ac0 hk hr hb (x:=x) hx)
 obtain ⟨c0,_,c2,c3,_,_⟩:=hm.cells
 have hfew:=hm.few
 have HM:=ke hm
 obtain ⟨W1,hW1⟩:∃ W1,W1=w.alloc (.cells #[.int .i64 0,.int .i32 0,.string ⟨#[]⟩,.string ⟨#[]⟩,.string ⟨#[]⟩,.slice none 0 0,.string ⟨#[]⟩,.int .i64 0] 35):=⟨_,rfl⟩
 rw [← hW1] at HA0 HI2 HM c0 c2 c3
 have HI3:=ke (fun (w':World) (hb:Below W1.heap.size W1 w')=>ady hk (HA0.out.below hb).1.2)
 have HW1:=ke hW1
 clear hm hr hW1
 go_enter Tryz.func145,Tryz.ntmps145
 go_upto_region 1 with (fail)
 rw [← HW1.out]
 go_upto_region 3 with (go_at_call 49;refine HI2.out.mono ?_;rintro e w1 ⟨rfl,rfl⟩)
 go_cut [15] from 16 to 50 (fun v15 wx=>v15=.bool false∧AtQ K w s wx)
 case first =>
  by_cases hb:q.bd=0
  ·by_cases hl:q.k < K.L.length
   ·obtain ⟨x,hx⟩:∃ x,K.L[q.k]?=some x:=⟨K.L[q.k]'hl,List.getElem?_eq_getElem _⟩
    have hx3:=HNT.out hb x hx
    obtain ⟨gw,ow,hA,d0,_,_⟩:=HM.out.word hx
    rw [hA] at c0
    have hx4:((x.k:Int) == 3)=false:=by rw [beq_eq_false_iff_ne];omega
    have hl2:(q.k:Int) < K.L.length:=by omega
    have hl3:decide ((q.k:Int) < K.L.length)=true:=decide_eq_true hl2
    have hl4:decide (q.k < K.L.length)=true:=decide_eq_true hl
    have hz0:(0:Int)≤q.k:=by omega
    rw [hb] at c3
    clear hx hA hb hx3
    go_quiet ((go_at_call 49;exact Calls.quiet_of_same ((HI3.out _ (by first|exact Below.refl _ _|exact below_drewN (Below.refl _ _) _)).mono fun e w' hh=>⟨hh.1,hh.2.symm⟩)))
    (try go_wp2_with fail)
    go_meet
    case rel=>exact ⟨rfl,HA0.out.below (below_drewN (Below.refl _ _) _)⟩
   ·have hl2:¬ (q.k:Int) < K.L.length:=by omega
    have hl3:decide ((q.k:Int) < K.L.length)=false:=decide_eq_false hl2
    have hl4:decide (q.k < K.L.length)=false:=decide_eq_false hl
    rw [hb] at c3
    clear hb
    go_quiet ((go_at_call 49;exact Calls.quiet_of_same ((HI3.out _ (by first|exact Below.refl _ _|exact below_drewN (Below.refl _ _) _)).mono fun e w' hh=>⟨hh.1,hh.2.symm⟩)))
    (try go_wp2_with fail)
    go_meet
    case rel=>exact ⟨rfl,HA0.out.below (below_drewN (Below.refl _ _) _)⟩
  ·have hb1:(q.bd == (0:Int))=false:=by simpa using hb
   have hb2:decide (q.bd=(0:Int))=false:=decide_eq_false hb
   clear hb
   go_quiet ((go_at_call 49;exact Calls.quiet_of_same ((HI3.out _ (by first|exact Below.refl _ _|exact below_drewN (Below.refl _ _) _)).mono fun e w' hh=>⟨hh.1,hh.2.symm⟩)))
   (try go_wp2_with fail)
   go_meet
   case rel=>exact ⟨rfl,HA0.out.below (below_drewN (Below.refl _ _) _)⟩
 case rest =>
  obtain ⟨rfl,hA⟩:=hcut
  have HA:=ke hA
  clear hA c0 c2 c3 HI2 HI3 HNT HM HA0 HW1
  go_wp2_with fail
  refine (aam HA.out.1.2 aee (by decide) e0 (aas e0)).mono ?_
  rintro e wn ⟨rfl,hmn⟩
  have HAn:=ke (HA.out.move hmn)
  clear hmn HA
  have HA:=HAn
  clear HAn
  go_wp2_with fail
  refine (aam HA.out.1.2 adf (by decide) e1 (aas e1)).mono ?_
  rintro e wn ⟨rfl,hmn⟩
  have HAn:=ke (HA.out.move hmn)
  clear hmn HA
  have HA:=HAn
  clear HAn
  go_wp2_with fail
  refine (aam HA.out.1.2 ae3 (by decide) e2 (afx e2)).mono ?_
  rintro e wn ⟨rfl,hmn⟩
  have HAn:=ke (HA.out.move hmn)
  clear hmn HA
  have HA:=HAn
  clear HAn
  obtain ⟨r0,r1,r2,r3,r4,r5,r6,r7⟩:=HA.out.cells
  have g0:=HA.out.2.1.fro 0
  have g1:=HA.out.2.1.fro 1
  have g2:=HA.out.2.1.fro 2
  have g3:=HA.out.2.1.fro 3
  have g4:=HA.out.2.1.fro 4
  have g5:=HA.out.2.1.fro 5
  have g6:=HA.out.2.1.fro 6
  have g7:=HA.out.2.1.fro 7
  obtain ⟨z0,z1,z2,z3,z4,z5,z6,z7⟩:=(HA.out.2.1.to_8 (.int .i64 4) (.int .i32 0) (.string ⟨#[]⟩) (.string ⟨#[]⟩) (.string ⟨#[]⟩) (.slice none 0 0) (.string ⟨#[]⟩) (.int .i64 0)).all_8
  go_wp2_with fail
  (try simp only [Exit.inBlock,Exit.then])
  refine bodyPost_ret (v:=.agg #[.int .i64 4,.int .i32 0,.string ⟨#[]⟩,.string ⟨#[]⟩,.string ⟨#[]⟩,.slice none 0 0,.string ⟨#[]⟩,.int .i64 0]) (by simp [results,Tryz.results145,go_sem,z0,z1,z2,z3,z4,z5,z6,z7]) rfl ?_
  exact HA.out.leaf 4 0 ⟨#[]⟩ ⟨#[]⟩ ⟨#[]⟩ ⟨Nat.zero_le _,Nat.zero_le _,Nat.zero_le _⟩ rfl
theorem atom_this (K:QC) (s:RS) (w:World) (h:Rq K s w) (hk:afp K s false false false false) (e0:s.sees 0 acy=false) (e1:s.sees 0 abq=false) (e2:s.sees 0 adv=false) (e3:s.sees 0 aeh=true) (hR:RX .atom s=([mkE 5 0 E0 E0 E0 []],s.skip)):Calls Tryz.prog 145 #[.pointer (some ⟨K.c,0,none⟩)] w (ExQ K w (RX .atom s)):=by
 rw [hR]
 clear hR
 have HA0:=ke (AtQ.start h)
 have HI2:=ke (adz hk HA0.out.1.2)
 obtain ⟨q,hm,hr⟩:=HA0.out.1.2
 have HNT:=ke (fun hb x hx=>ac0 hk hr hb (x:=x) hx)
 obtain ⟨c0,_,c2,c3,_,_⟩:=hm.cells
 have hfew:=hm.few
 have HM:=ke hm
 obtain ⟨W1,hW1⟩:∃ W1,W1=w.alloc (.cells #[.int .i64 0,.int .i32 0,.string ⟨#[]⟩,.string ⟨#[]⟩,.string ⟨#[]⟩,.slice none 0 0,.string ⟨#[]⟩,.int .i64 0] 35):=⟨_,rfl⟩
 rw [← hW1] at HA0 HI2 HM c0 c2 c3
 have HI3:=ke (fun (w':World) (hb:Below W1.heap.size W1 w')=>ady hk (HA0.out.below hb).1.2)
 have HW1:=ke hW1
 clear hm hr hW1
 go_enter Tryz.func145,Tryz.ntmps145
 go_upto_region 1 with (fail)
 rw [← HW1.out]
 go_upto_region 3 with (go_at_call 49;refine HI2.out.mono ?_;rintro e w1 ⟨rfl,rfl⟩)
 go_cut [15] from 16 to 50 (fun v15 wx=>v15=.bool false∧AtQ K w s wx)
 case first =>
  by_cases hb:q.bd=0
  ·by_cases hl:q.k < K.L.length
   ·obtain ⟨x,hx⟩:∃ x,K.L[q.k]?=some x:=⟨K.L[q.k]'hl,List.getElem?_eq_getElem _⟩
    have hx3:=HNT.out hb x hx
    obtain ⟨gw,ow,hA,d0,_,_⟩:=HM.out.word hx
    rw [hA] at c0
    have hx4:((x.k:Int) == 3)=false:=by rw [beq_eq_false_iff_ne];omega
    have hl2:(q.k:Int) < K.L.length:=by omega
    have hl3:decide ((q.k:Int) < K.L.length)=true:=decide_eq_true hl2
    have hl4:decide (q.k < K.L.length)=true:=decide_eq_true hl
    have hz0:(0:Int)≤q.k:=by omega
    rw [hb] at c3
    clear hx hA hb hx3
    go_quiet ((go_at_call 49;exact Calls.quiet_of_same ((HI3.out _ (by first|exact Below.refl _ _|exact below_drewN (Below.refl _ _) _)).mono fun e w' hh=>⟨hh.1,hh.2.symm⟩)))
    (try go_wp2_with fail)
    go_meet
    case rel=>exact ⟨rfl,HA0.out.below (below_drewN (Below.refl _ _) _)⟩
   ·have hl2:¬ (q.k:Int) < K.L.length:=by omega
    have hl3:decide ((q.k:Int) < K.L.length)=false:=decide_eq_false hl2
    have hl4:decide (q.k < K.L.length)=false:=decide_eq_false hl
    rw [hb] at c3
    clear hb
    go_quiet ((go_at_call 49;exact Calls.quiet_of_same ((HI3.out _ (by first|exact Below.refl _ _|exact below_drewN (Below.refl _ _) _)).mono fun e w' hh=>⟨hh.1,hh.2.symm⟩)))
    (try go_wp2_with fail)
    go_meet
    case rel=>exact ⟨rfl,HA0.out.below (below_drewN (Below.refl _ _) _)⟩
  ·have hb1:(q.bd == (0:Int))=false:=by simpa using hb
   have hb2:decide (q.bd=(0:Int))=false:=decide_eq_false hb
   clear hb
   go_quiet ((go_at_call 49;exact Calls.quiet_of_same ((HI3.out _ (by first|exact Below.refl _ _|exact below_drewN (Below.refl _ _) _)).mono fun e w' hh=>⟨hh.1,hh.2.symm⟩)))
   (try go_wp2_with fail)
   go_meet
   case rel=>exact ⟨rfl,HA0.out.below (below_drewN (Below.refl _ _) _)⟩
 case rest =>
  obtain ⟨rfl,hA⟩:=hcut
  have HA:=ke hA
  clear hA c0 c2 c3 HI2 HI3 HNT HM HA0 HW1
  go_wp2_with fail
  refine (aam HA.out.1.2 aee (by decide) e0 (aas e0)).mono ?_
  rintro e wn ⟨rfl,hmn⟩
  have HAn:=ke (HA.out.move hmn)
  clear hmn HA
  have HA:=HAn
  clear HAn
  go_wp2_with fail
  refine (aam HA.out.1.2 adf (by decide) e1 (aas e1)).mono ?_
  rintro e wn ⟨rfl,hmn⟩
  have HAn:=ke (HA.out.move hmn)
  clear hmn HA
  have HA:=HAn
  clear HAn
  go_wp2_with fail
  refine (aam HA.out.1.2 ae3 (by decide) e2 (aas e2)).mono ?_
  rintro e wn ⟨rfl,hmn⟩
  have HAn:=ke (HA.out.move hmn)
  clear hmn HA
  have HA:=HAn
  clear HAn
  go_wp2_with fail
  refine (aam HA.out.1.2 afk (by decide) e3 (afx e3)).mono ?_
  rintro e wn ⟨rfl,hmn⟩
  have HAn:=ke (HA.out.move hmn)
  clear hmn HA
  have HA:=HAn
  clear HAn
  obtain ⟨r0,r1,r2,r3,r4,r5,r6,r7⟩:=HA.out.cells
  have g0:=HA.out.2.1.fro 0
  have g1:=HA.out.2.1.fro 1
  have g2:=HA.out.2.1.fro 2
  have g3:=HA.out.2.1.fro 3
  have g4:=HA.out.2.1.fro 4
  have g5:=HA.out.2.1.fro 5
  have g6:=HA.out.2.1.fro 6
  have g7:=HA.out.2.1.fro 7
  obtain ⟨z0,z1,z2,z3,z4,z5,z6,z7⟩:=(HA.out.2.1.to_8 (.int .i64 5) (.int .i32 0) (.string ⟨#[]⟩) (.string ⟨#[]⟩) (.string ⟨#[]⟩) (.slice none 0 0) (.string ⟨#[]⟩) (.int .i64 0)).all_8
  go_wp2_with fail
  (try simp only [Exit.inBlock,Exit.then])
  refine bodyPost_ret (v:=.agg #[.int .i64 5,.int .i32 0,.string ⟨#[]⟩,.string ⟨#[]⟩,.string ⟨#[]⟩,.slice none 0 0,.string ⟨#[]⟩,.int .i64 0]) (by simp [results,Tryz.results145,go_sem,z0,z1,z2,z3,z4,z5,z6,z7]) rfl ?_
  exact HA.out.leaf 5 0 ⟨#[]⟩ ⟨#[]⟩ ⟨#[]⟩ ⟨Nat.zero_le _,Nat.zero_le _,Nat.zero_le _⟩ rfl
end
section
open Go.RowKit
theorem args_node {ys:List Nd} {q:List Nd×RS} {k:Int} {nm ty:ByteArray} (hby:q.2.wc=0→aai ys=aai q.1) (v:Value):∃ X,aaq X=.ex k 0 ⟨#[]⟩ nm ty (.slice none 0 0) (aai ys) ⟨#[]⟩ 0∧(q.2.wc=0→X=mkE k 0 E0 nm ty q.1):=by
 by_cases e:q.2.wc=0
 ·exact ⟨_,ab4 (hby e) _ _ _ _ _,fun _=>rfl⟩
 ·exact ⟨.ex k 0 ⟨#[]⟩ nm ty v ys ⟨#[]⟩ 0,rfl,fun h=>absurd h e⟩
theorem AtQ.args {K:QC} {w w':World} {B2:Nat} {A:Option Addr} {cap:Nat} {ys:List Nd} {q:List Nd×RS} (h:AtQ K w q.2 w') (ho:OwnE B2 w' (.slice A ys.length cap) ys) (hB:w.heap.size < B2) (hby:q.2.wc=0→aai ys=aai q.1) (k:Int) (nm ty:ByteArray) (hs:nm.size≤maxLen∧ty.size≤maxLen) {r:List Nd×RS} (hr:r=([mkE k 0 E0 nm ty q.1],q.2)) :
 ExQ K w r (.returned (.agg #[.int .i64 k,.int .i32 0,.string ⟨#[]⟩,.string nm,.string ty,.slice A ys.length cap,.string ⟨#[]⟩,.int .i64 0])) ((((((((w'.setCell ⟨w.heap.size,0,none⟩ (.int .i64 k)).setCell ⟨w.heap.size,1,none⟩ (.int .i32 0)).setCell ⟨w.heap.size,2,none⟩ (.string ⟨#[]⟩)).setCell ⟨w.heap.size,3,none⟩ (.string nm)).setCell ⟨w.heap.size,4,none⟩ (.string ty)).setCell ⟨w.heap.size,5,none⟩ (.slice A ys.length cap)).setCell ⟨w.heap.size,6,none⟩ (.string ⟨#[]⟩)).setCell ⟨w.heap.size,7,none⟩ (.int .i64 0)):=by
 subst hr
 obtain ⟨X,hX1,hX2⟩:=args_node (k:=k) (nm:=nm) (ty:=ty) hby (.slice A ys.length cap)
 have hg:=aaw w' w.heap.size (.int .i64 k) (.int .i32 0) (.string ⟨#[]⟩) (.string nm) (.string ty) (.slice A ys.length cap) (.string ⟨#[]⟩) (.int .i64 0)
 refine ⟨X,_,rfl,((ho.node k 0 ⟨#[]⟩ nm ty ⟨Nat.zero_le _,hs.1,hs.2⟩ hX1).grown hg (.inl hB)).mono (by omega),fun e=>?_,h.1.row hg (fun i e=>by injection e with e;omega) h.2.2.1 h.2.2.2⟩
 rw [hX2 e];rfl
theorem atom_name_args (K:QC) (s:RS) (w:World) (N:Nat) (IH:∀ m,m < N→agl m) (hN:20 * s.len+3≤N) (h:Rq K s w) (hk:afp K s false false true false) (e0:s.sees 0 acy=false) (e1:s.sees 0 abq=false) (e2:s.sees 0 adv=false) (e3:s.sees 0 aeh=false) (e4:s.sees 0 abp=false) (e5:s.sees 0 sNew=false) (hR:RX .atom s=RX (.used 6 11 E0 []) (s)) (ho:(s).name.sees 0 aah=true):Calls Tryz.prog 145 #[.pointer (some ⟨K.c,0,none⟩)] w (ExQ K w (RX .atom s)):=by
 have h3:=abg s
 rw [ahr] at hR
 obtain ⟨s1,hs1⟩:∃ s1,s.name=s1:=⟨_,rfl⟩
 obtain ⟨t,htn⟩:∃ t,s.nameV=t:=⟨_,rfl⟩
 have hnz:t.size≤maxLen:=by rw [← htn];exact abz _
 rw [hs1] at hR ho h3
 rw [htn,ho] at hR
 simp only [if_true,Bool.false_eq_true,if_false,List.nil_append] at hR
 have HNM:Hid (∀ w',Rq K s w'→Calls Tryz.prog 52 #[.pointer (some ⟨K.c,0,none⟩)] w' fun e w''=>e=.returned (.string t)∧Tq K s1 w' w''):=ke fun w' h'=>by rw [← hs1,← htn];exact afh h'
 have HSG:Hid (∀ w',Rq K s1 w'→Calls Tryz.prog 22 #[.pointer (some ⟨K.c,0,none⟩),.string aah] w' fun e w''=>e=.returned (.bool true)∧w'=w''):=ke fun w' h'=>by
  have:=aa9 h' adl (by decide)
  rw [ho] at this;exact this
 have h4:=aa5 ho
 obtain ⟨q2,hq2⟩:∃ q2,RX .args s1=q2:=⟨_,rfl⟩
 rw [hq2] at hR
 have HAR:Hid (∀ w',Rq K s1 w'→Calls Tryz.prog 136 #[.pointer (some ⟨K.c,0,none⟩)] w' (LsQ K w' q2)):=ke fun w' h'=>by
  have:=IH (20 * s1.len+14) (by omega) K s1 w' h' (Nat.le_refl _)
  rw [hq2] at this;exact this
 have HRR:=ke hR
 rw [hR]
 clear hR hs1 htn ho IH hN hq2
 have HA0:=ke (AtQ.start h)
 have HI2:=ke (adz hk HA0.out.1.2)
 obtain ⟨q,hm,hr⟩:=HA0.out.1.2
 have HNT:=ke (fun hb x hx=>ac0 hk hr hb (x:=x) hx)
 obtain ⟨c0,_,c2,c3,_,_⟩:=hm.cells
 have hfew:=hm.few
 have HM:=ke hm
 obtain ⟨W1,hW1⟩:∃ W1,W1=w.alloc (.cells #[.int .i64 0,.int .i32 0,.string ⟨#[]⟩,.string ⟨#[]⟩,.string ⟨#[]⟩,.slice none 0 0,.string ⟨#[]⟩,.int .i64 0] 35):=⟨_,rfl⟩
 rw [← hW1] at HA0 HI2 HM c0 c2 c3
 have HI3:=ke (fun (w':World) (hb:Below W1.heap.size W1 w')=>ady hk (HA0.out.below hb).1.2)
 have HW1:=ke hW1
 clear hm hr hW1
 go_enter Tryz.func145,Tryz.ntmps145
 go_upto_region 1 with (fail)
 rw [← HW1.out]
 go_upto_region 3 with (go_at_call 49;refine HI2.out.mono ?_;rintro e w1 ⟨rfl,rfl⟩)
 go_cut [15] from 16 to 50 (fun v15 wx=>v15=.bool false∧AtQ K w s wx)
 case first =>
  by_cases hb:q.bd=0
  ·by_cases hl:q.k < K.L.length
   ·obtain ⟨x,hx⟩:∃ x,K.L[q.k]?=some x:=⟨K.L[q.k]'hl,List.getElem?_eq_getElem _⟩
    have hx3:=HNT.out hb x hx
    obtain ⟨gw,ow,hA,d0,_,_⟩:=HM.out.word hx
    rw [hA] at c0
    have hx4:((x.k:Int) == 3)=false:=by rw [beq_eq_false_iff_ne];omega
    have hl2:(q.k:Int) < K.L.length:=by omega
    have hl3:decide ((q.k:Int) < K.L.length)=true:=decide_eq_true hl2
    have hl4:decide (q.k < K.L.length)=true:=decide_eq_true hl
    have hz0:(0:Int)≤q.k:=by omega
    rw [hb] at c3
    clear hx hA hb hx3
    go_quiet ((go_at_call 49;exact Calls.quiet_of_same ((HI3.out _ (by first|exact Below.refl _ _|exact below_drewN (Below.refl _ _) _)).mono fun e w' hh=>⟨hh.1,hh.2.symm⟩)))
    (try go_wp2_with fail)
    go_meet
    case rel=>exact ⟨rfl,HA0.out.below (below_drewN (Below.refl _ _) _)⟩
   ·have hl2:¬ (q.k:Int) < K.L.length:=by omega
    have hl3:decide ((q.k:Int) < K.L.length)=false:=decide_eq_false hl2
    have hl4:decide (q.k < K.L.length)=false:=decide_eq_false hl
    rw [hb] at c3
    clear hb
    go_quiet ((go_at_call 49;exact Calls.quiet_of_same ((HI3.out _ (by first|exact Below.refl _ _|exact below_drewN (Below.refl _ _) _)).mono fun e w' hh=>⟨hh.1,hh.2.symm⟩)))
    (try go_wp2_with fail)
    go_meet
    case rel=>exact ⟨rfl,HA0.out.below (below_drewN (Below.refl _ _) _)⟩
  ·have hb1:(q.bd == (0:Int))=false:=by simpa using hb
   have hb2:decide (q.bd=(0:Int))=false:=decide_eq_false hb
   clear hb
   go_quiet ((go_at_call 49;exact Calls.quiet_of_same ((HI3.out _ (by first|exact Below.refl _ _|exact below_drewN (Below.refl _ _) _)).mono fun e w' hh=>⟨hh.1,hh.2.symm⟩)))
   (try go_wp2_with fail)
   go_meet
   case rel=>exact ⟨rfl,HA0.out.below (below_drewN (Below.refl _ _) _)⟩
 case rest =>
  obtain ⟨rfl,hA⟩:=hcut
  have HA:=ke hA
  clear hA c0 c2 c3 HI2 HI3 HNT HM HA0 HW1
  go_wp2_with fail
  refine (aam HA.out.1.2 aee (by decide) e0 (aas e0)).mono ?_
  rintro e wn ⟨rfl,hmn⟩
  have HAn:=ke (HA.out.move hmn)
  clear hmn HA
  have HA:=HAn
  clear HAn
  go_wp2_with fail
  refine (aam HA.out.1.2 adf (by decide) e1 (aas e1)).mono ?_
  rintro e wn ⟨rfl,hmn⟩
  have HAn:=ke (HA.out.move hmn)
  clear hmn HA
  have HA:=HAn
  clear HAn
  go_wp2_with fail
  refine (aam HA.out.1.2 ae3 (by decide) e2 (aas e2)).mono ?_
  rintro e wn ⟨rfl,hmn⟩
  have HAn:=ke (HA.out.move hmn)
  clear hmn HA
  have HA:=HAn
  clear HAn
  go_wp2_with fail
  refine (aam HA.out.1.2 afk (by decide) e3 (aas e3)).mono ?_
  rintro e wn ⟨rfl,hmn⟩
  have HAn:=ke (HA.out.move hmn)
  clear hmn HA
  have HA:=HAn
  clear HAn
  go_wp2_with fail
  refine (aam HA.out.1.2 aeq (by decide) e4 (aas e4)).mono ?_
  rintro e wn ⟨rfl,hmn⟩
  have HAn:=ke (HA.out.move hmn)
  clear hmn HA
  have HA:=HAn
  clear HAn
  go_wp2_with fail
  refine (aam HA.out.1.2 aj9 (by decide) e5 (aas e5)).mono ?_
  rintro e wn ⟨rfl,hmn⟩
  have HAn:=ke (HA.out.move hmn)
  clear hmn HA
  have HA:=HAn
  clear HAn
  go_wp2_with fail
  refine (agv hk HA.out.1.2).mono ?_
  rintro e wn ⟨rfl,hmn⟩
  have HAn:=ke (HA.out.move hmn)
  clear hmn HA
  have HA:=HAn
  clear HAn
  go_wp2_with fail
  refine (HNM.out _ HA.out.1.2).mono ?_
  rintro e wn ⟨rfl,hmn⟩
  have HAn:=ke (HA.out.move hmn)
  clear hmn HA
  have HA:=HAn
  clear HAn
  go_wp2_with fail
  refine (HSG.out _ HA.out.1.2).mono ?_
  rintro e wn2 ⟨rfl,rfl⟩
  have hwl:=HA.out.2.1.lt
  go_wp2_with fail
  refine (HAR.out _ HA.out.1.2).mono ?_
  rintro e w4 ⟨v2,ys,rfl,ho2,hby,hyl,hmn⟩
  obtain ⟨A2,cap2,rfl⟩:=ho2.form
  have HAn:=ke (HA.out.move hmn)
  have HO2:=ke ho2
  have HBY:=ke hby
  clear hmn HA ho2 hby
  have HA:=HAn
  clear HAn
  obtain ⟨r0,r1,r2,r3,r4,r5,r6,r7⟩:=HA.out.cells
  have g0:=HA.out.2.1.fro 0
  have g1:=HA.out.2.1.fro 1
  have g2:=HA.out.2.1.fro 2
  have g3:=HA.out.2.1.fro 3
  have g4:=HA.out.2.1.fro 4
  have g5:=HA.out.2.1.fro 5
  have g6:=HA.out.2.1.fro 6
  have g7:=HA.out.2.1.fro 7
  obtain ⟨z0,z1,z2,z3,z4,z5,z6,z7⟩:=(HA.out.2.1.to_8 (.int .i64 11) (.int .i32 0) (.string ⟨#[]⟩) (.string t) (.string ⟨#[]⟩) (.slice A2 ys.length cap2) (.string ⟨#[]⟩) (.int .i64 0)).all_8
  go_wp2_with fail
  (try simp only [Exit.inBlock,Exit.then])
  refine bodyPost_ret (v:=.agg #[.int .i64 11,.int .i32 0,.string ⟨#[]⟩,.string t,.string ⟨#[]⟩,.slice A2 ys.length cap2,.string ⟨#[]⟩,.int .i64 0]) (by simp [results,Tryz.results145,go_sem,z0,z1,z2,z3,z4,z5,z6,z7]) rfl ?_
  exact HA.out.args HO2.out hwl HBY.out 11 t ⟨#[]⟩ ⟨hnz,Nat.zero_le _⟩ rfl
theorem atom_name_bare (K:QC) (s:RS) (w:World) (N:Nat) (IH:∀ m,m < N→agl m) (hN:20 * s.len+3≤N) (h:Rq K s w) (hk:afp K s false false true false) (e0:s.sees 0 acy=false) (e1:s.sees 0 abq=false) (e2:s.sees 0 adv=false) (e3:s.sees 0 aeh=false) (e4:s.sees 0 abp=false) (e5:s.sees 0 sNew=false) (hR:RX .atom s=RX (.used 6 11 E0 []) (s)) (ho:(s).name.sees 0 aah=false):Calls Tryz.prog 145 #[.pointer (some ⟨K.c,0,none⟩)] w (ExQ K w (RX .atom s)):=by
 have h3:=abg s
 rw [ahr] at hR
 obtain ⟨s1,hs1⟩:∃ s1,s.name=s1:=⟨_,rfl⟩
 obtain ⟨t,htn⟩:∃ t,s.nameV=t:=⟨_,rfl⟩
 have hnz:t.size≤maxLen:=by rw [← htn];exact abz _
 rw [hs1] at hR ho h3
 rw [htn,ho] at hR
 simp only [if_true,Bool.false_eq_true,if_false,List.nil_append] at hR
 have HNM:Hid (∀ w',Rq K s w'→Calls Tryz.prog 52 #[.pointer (some ⟨K.c,0,none⟩)] w' fun e w''=>e=.returned (.string t)∧Tq K s1 w' w''):=ke fun w' h'=>by rw [← hs1,← htn];exact afh h'
 have HSG:Hid (∀ w',Rq K s1 w'→Calls Tryz.prog 22 #[.pointer (some ⟨K.c,0,none⟩),.string aah] w' fun e w''=>e=.returned (.bool false)∧w'=w''):=ke fun w' h'=>by
  have:=aa9 h' adl (by decide)
  rw [ho] at this;exact this
 have HRR:=ke hR
 rw [hR]
 clear hR hs1 htn ho IH hN
 have HA0:=ke (AtQ.start h)
 have HI2:=ke (adz hk HA0.out.1.2)
 obtain ⟨q,hm,hr⟩:=HA0.out.1.2
 have HNT:=ke (fun hb x hx=>ac0 hk hr hb (x:=x) hx)
 obtain ⟨c0,_,c2,c3,_,_⟩:=hm.cells
 have hfew:=hm.few
 have HM:=ke hm
 obtain ⟨W1,hW1⟩:∃ W1,W1=w.alloc (.cells #[.int .i64 0,.int .i32 0,.string ⟨#[]⟩,.string ⟨#[]⟩,.string ⟨#[]⟩,.slice none 0 0,.string ⟨#[]⟩,.int .i64 0] 35):=⟨_,rfl⟩
 rw [← hW1] at HA0 HI2 HM c0 c2 c3
 have HI3:=ke (fun (w':World) (hb:Below W1.heap.size W1 w')=>ady hk (HA0.out.below hb).1.2)
 have HW1:=ke hW1
 clear hm hr hW1
 go_enter Tryz.func145,Tryz.ntmps145
 go_upto_region 1 with (fail)
 rw [← HW1.out]
 go_upto_region 3 with (go_at_call 49;refine HI2.out.mono ?_;rintro e w1 ⟨rfl,rfl⟩)
 go_cut [15] from 16 to 50 (fun v15 wx=>v15=.bool false∧AtQ K w s wx)
 case first =>
  by_cases hb:q.bd=0
  ·by_cases hl:q.k < K.L.length
   ·obtain ⟨x,hx⟩:∃ x,K.L[q.k]?=some x:=⟨K.L[q.k]'hl,List.getElem?_eq_getElem _⟩
    have hx3:=HNT.out hb x hx
    obtain ⟨gw,ow,hA,d0,_,_⟩:=HM.out.word hx
    rw [hA] at c0
    have hx4:((x.k:Int) == 3)=false:=by rw [beq_eq_false_iff_ne];omega
    have hl2:(q.k:Int) < K.L.length:=by omega
    have hl3:decide ((q.k:Int) < K.L.length)=true:=decide_eq_true hl2
    have hl4:decide (q.k < K.L.length)=true:=decide_eq_true hl
    have hz0:(0:Int)≤q.k:=by omega
    rw [hb] at c3
    clear hx hA hb hx3
    go_quiet ((go_at_call 49;exact Calls.quiet_of_same ((HI3.out _ (by first|exact Below.refl _ _|exact below_drewN (Below.refl _ _) _)).mono fun e w' hh=>⟨hh.1,hh.2.symm⟩)))
    (try go_wp2_with fail)
    go_meet
    case rel=>exact ⟨rfl,HA0.out.below (below_drewN (Below.refl _ _) _)⟩
   ·have hl2:¬ (q.k:Int) < K.L.length:=by omega
    have hl3:decide ((q.k:Int) < K.L.length)=false:=decide_eq_false hl2
    have hl4:decide (q.k < K.L.length)=false:=decide_eq_false hl
    rw [hb] at c3
    clear hb
    go_quiet ((go_at_call 49;exact Calls.quiet_of_same ((HI3.out _ (by first|exact Below.refl _ _|exact below_drewN (Below.refl _ _) _)).mono fun e w' hh=>⟨hh.1,hh.2.symm⟩)))
    (try go_wp2_with fail)
    go_meet
    case rel=>exact ⟨rfl,HA0.out.below (below_drewN (Below.refl _ _) _)⟩
  ·have hb1:(q.bd == (0:Int))=false:=by simpa using hb
   have hb2:decide (q.bd=(0:Int))=false:=decide_eq_false hb
   clear hb
   go_quiet ((go_at_call 49;exact Calls.quiet_of_same ((HI3.out _ (by first|exact Below.refl _ _|exact below_drewN (Below.refl _ _) _)).mono fun e w' hh=>⟨hh.1,hh.2.symm⟩)))
   (try go_wp2_with fail)
   go_meet
   case rel=>exact ⟨rfl,HA0.out.below (below_drewN (Below.refl _ _) _)⟩
 case rest =>
  obtain ⟨rfl,hA⟩:=hcut
  have HA:=ke hA
  clear hA c0 c2 c3 HI2 HI3 HNT HM HA0 HW1
  go_wp2_with fail
  refine (aam HA.out.1.2 aee (by decide) e0 (aas e0)).mono ?_
  rintro e wn ⟨rfl,hmn⟩
  have HAn:=ke (HA.out.move hmn)
  clear hmn HA
  have HA:=HAn
  clear HAn
  go_wp2_with fail
  refine (aam HA.out.1.2 adf (by decide) e1 (aas e1)).mono ?_
  rintro e wn ⟨rfl,hmn⟩
  have HAn:=ke (HA.out.move hmn)
  clear hmn HA
  have HA:=HAn
  clear HAn
  go_wp2_with fail
  refine (aam HA.out.1.2 ae3 (by decide) e2 (aas e2)).mono ?_
  rintro e wn ⟨rfl,hmn⟩
  have HAn:=ke (HA.out.move hmn)
  clear hmn HA
  have HA:=HAn
  clear HAn
  go_wp2_with fail
  refine (aam HA.out.1.2 afk (by decide) e3 (aas e3)).mono ?_
  rintro e wn ⟨rfl,hmn⟩
  have HAn:=ke (HA.out.move hmn)
  clear hmn HA
  have HA:=HAn
  clear HAn
  go_wp2_with fail
  refine (aam HA.out.1.2 aeq (by decide) e4 (aas e4)).mono ?_
  rintro e wn ⟨rfl,hmn⟩
  have HAn:=ke (HA.out.move hmn)
  clear hmn HA
  have HA:=HAn
  clear HAn
  go_wp2_with fail
  refine (aam HA.out.1.2 aj9 (by decide) e5 (aas e5)).mono ?_
  rintro e wn ⟨rfl,hmn⟩
  have HAn:=ke (HA.out.move hmn)
  clear hmn HA
  have HA:=HAn
  clear HAn
  go_wp2_with fail
  refine (agv hk HA.out.1.2).mono ?_
  rintro e wn ⟨rfl,hmn⟩
  have HAn:=ke (HA.out.move hmn)
  clear hmn HA
  have HA:=HAn
  clear HAn
  go_wp2_with fail
  refine (HNM.out _ HA.out.1.2).mono ?_
  rintro e wn ⟨rfl,hmn⟩
  have HAn:=ke (HA.out.move hmn)
  clear hmn HA
  have HA:=HAn
  clear HAn
  go_wp2_with fail
  refine (HSG.out _ HA.out.1.2).mono ?_
  rintro e wn2 ⟨rfl,rfl⟩
  obtain ⟨r0,r1,r2,r3,r4,r5,r6,r7⟩:=HA.out.cells
  have g0:=HA.out.2.1.fro 0
  have g1:=HA.out.2.1.fro 1
  have g2:=HA.out.2.1.fro 2
  have g3:=HA.out.2.1.fro 3
  have g4:=HA.out.2.1.fro 4
  have g5:=HA.out.2.1.fro 5
  have g6:=HA.out.2.1.fro 6
  have g7:=HA.out.2.1.fro 7
  obtain ⟨z0,z1,z2,z3,z4,z5,z6,z7⟩:=(HA.out.2.1.to_8 (.int .i64 6) (.int .i32 0) (.string ⟨#[]⟩) (.string t) (.string ⟨#[]⟩) (.slice none 0 0) (.string ⟨#[]⟩) (.int .i64 0)).all_8
  go_wp2_with fail
  (try simp only [Exit.inBlock,Exit.then])
  refine bodyPost_ret (v:=.agg #[.int .i64 6,.int .i32 0,.string ⟨#[]⟩,.string t,.string ⟨#[]⟩,.slice none 0 0,.string ⟨#[]⟩,.int .i64 0]) (by simp [results,Tryz.results145,go_sem,z0,z1,z2,z3,z4,z5,z6,z7]) rfl ?_
  exact HA.out.leaf 6 0 ⟨#[]⟩ t ⟨#[]⟩ ⟨Nat.zero_le _,hnz,Nat.zero_le _⟩ rfl
end
section
open Go.RowKit
theorem atom_class_args (K:QC) (s:RS) (w:World) (N:Nat) (IH:∀ m,m < N→agl m) (hN:20 * s.len+3≤N) (h:Rq K s w) (hk:afp K s false false false true) (e0:s.sees 0 acy=false) (e1:s.sees 0 abq=false) (e2:s.sees 0 adv=false) (e3:s.sees 0 aeh=false) (e4:s.sees 0 abp=false) (e5:s.sees 0 sNew=false) (hR:RX .atom s=RX (.used 9 13 s.classV []) (s.class.need ado)) (ho:(s.class.need ado).name.sees 0 aah=true):Calls Tryz.prog 145 #[.pointer (some ⟨K.c,0,none⟩)] w (ExQ K w (RX .atom s)):=by
 obtain ⟨st,hst⟩:∃ st,s.class.need ado=st:=⟨_,rfl⟩
 obtain ⟨ty,hty⟩:∃ ty,s.classV=ty:=⟨_,rfl⟩
 have htz:ty.size≤maxLen:=by rw [← hty];exact ab7 _
 have h1:=aaz s
 have h2:=aan s.class ado
 rw [hst] at h2
 rw [hst] at hR ho
 have HST:=ke hst
 rw [hty] at hR
 have HTY:=ke hty
 have h3:=abg st
 rw [ahr] at hR
 obtain ⟨s1,hs1⟩:∃ s1,st.name=s1:=⟨_,rfl⟩
 obtain ⟨t,htn⟩:∃ t,st.nameV=t:=⟨_,rfl⟩
 have hnz:t.size≤maxLen:=by rw [← htn];exact abz _
 rw [hs1] at hR ho h3
 rw [htn,ho] at hR
 simp only [if_true,Bool.false_eq_true,if_false,List.nil_append] at hR
 have HNM:Hid (∀ w',Rq K st w'→Calls Tryz.prog 52 #[.pointer (some ⟨K.c,0,none⟩)] w' fun e w''=>e=.returned (.string t)∧Tq K s1 w' w''):=ke fun w' h'=>by rw [← hs1,← htn];exact afh h'
 have HSG:Hid (∀ w',Rq K s1 w'→Calls Tryz.prog 22 #[.pointer (some ⟨K.c,0,none⟩),.string aah] w' fun e w''=>e=.returned (.bool true)∧w'=w''):=ke fun w' h'=>by
  have:=aa9 h' adl (by decide)
  rw [ho] at this;exact this
 have h4:=aa5 ho
 obtain ⟨q2,hq2⟩:∃ q2,RX .args s1=q2:=⟨_,rfl⟩
 rw [hq2] at hR
 have HAR:Hid (∀ w',Rq K s1 w'→Calls Tryz.prog 136 #[.pointer (some ⟨K.c,0,none⟩)] w' (LsQ K w' q2)):=ke fun w' h'=>by
  have:=IH (20 * s1.len+14) (by omega) K s1 w' h' (Nat.le_refl _)
  rw [hq2] at this;exact this
 have HRR:=ke hR
 rw [hR]
 clear hR hst hty hs1 htn ho IH hN hq2
 have HA0:=ke (AtQ.start h)
 have HI2:=ke (adz hk HA0.out.1.2)
 obtain ⟨q,hm,hr⟩:=HA0.out.1.2
 have HNT:=ke (fun hb x hx=>ac0 hk hr hb (x:=x) hx)
 obtain ⟨c0,_,c2,c3,_,_⟩:=hm.cells
 have hfew:=hm.few
 have HM:=ke hm
 obtain ⟨W1,hW1⟩:∃ W1,W1=w.alloc (.cells #[.int .i64 0,.int .i32 0,.string ⟨#[]⟩,.string ⟨#[]⟩,.string ⟨#[]⟩,.slice none 0 0,.string ⟨#[]⟩,.int .i64 0] 35):=⟨_,rfl⟩
 rw [← hW1] at HA0 HI2 HM c0 c2 c3
 have HI3:=ke (fun (w':World) (hb:Below W1.heap.size W1 w')=>ady hk (HA0.out.below hb).1.2)
 have HW1:=ke hW1
 clear hm hr hW1
 go_enter Tryz.func145,Tryz.ntmps145
 go_upto_region 1 with (fail)
 rw [← HW1.out]
 go_upto_region 3 with (go_at_call 49;refine HI2.out.mono ?_;rintro e w1 ⟨rfl,rfl⟩)
 go_cut [15] from 16 to 50 (fun v15 wx=>v15=.bool false∧AtQ K w s wx)
 case first =>
  by_cases hb:q.bd=0
  ·by_cases hl:q.k < K.L.length
   ·obtain ⟨x,hx⟩:∃ x,K.L[q.k]?=some x:=⟨K.L[q.k]'hl,List.getElem?_eq_getElem _⟩
    have hx3:=HNT.out hb x hx
    obtain ⟨gw,ow,hA,d0,_,_⟩:=HM.out.word hx
    rw [hA] at c0
    have hx4:((x.k:Int) == 3)=false:=by rw [beq_eq_false_iff_ne];omega
    have hl2:(q.k:Int) < K.L.length:=by omega
    have hl3:decide ((q.k:Int) < K.L.length)=true:=decide_eq_true hl2
    have hl4:decide (q.k < K.L.length)=true:=decide_eq_true hl
    have hz0:(0:Int)≤q.k:=by omega
    rw [hb] at c3
    clear hx hA hb hx3
    go_quiet ((go_at_call 49;exact Calls.quiet_of_same ((HI3.out _ (by first|exact Below.refl _ _|exact below_drewN (Below.refl _ _) _)).mono fun e w' hh=>⟨hh.1,hh.2.symm⟩)))
    (try go_wp2_with fail)
    go_meet
    case rel=>exact ⟨rfl,HA0.out.below (below_drewN (Below.refl _ _) _)⟩
   ·have hl2:¬ (q.k:Int) < K.L.length:=by omega
    have hl3:decide ((q.k:Int) < K.L.length)=false:=decide_eq_false hl2
    have hl4:decide (q.k < K.L.length)=false:=decide_eq_false hl
    rw [hb] at c3
    clear hb
    go_quiet ((go_at_call 49;exact Calls.quiet_of_same ((HI3.out _ (by first|exact Below.refl _ _|exact below_drewN (Below.refl _ _) _)).mono fun e w' hh=>⟨hh.1,hh.2.symm⟩)))
    (try go_wp2_with fail)
    go_meet
    case rel=>exact ⟨rfl,HA0.out.below (below_drewN (Below.refl _ _) _)⟩
  ·have hb1:(q.bd == (0:Int))=false:=by simpa using hb
   have hb2:decide (q.bd=(0:Int))=false:=decide_eq_false hb
   clear hb
   go_quiet ((go_at_call 49;exact Calls.quiet_of_same ((HI3.out _ (by first|exact Below.refl _ _|exact below_drewN (Below.refl _ _) _)).mono fun e w' hh=>⟨hh.1,hh.2.symm⟩)))
   (try go_wp2_with fail)
   go_meet
   case rel=>exact ⟨rfl,HA0.out.below (below_drewN (Below.refl _ _) _)⟩
 case rest =>
  obtain ⟨rfl,hA⟩:=hcut
  have HA:=ke hA
  clear hA c0 c2 c3 HI2 HI3 HNT HM HA0 HW1
  go_wp2_with fail
  refine (aam HA.out.1.2 aee (by decide) e0 (aas e0)).mono ?_
  rintro e wn ⟨rfl,hmn⟩
  have HAn:=ke (HA.out.move hmn)
  clear hmn HA
  have HA:=HAn
  clear HAn
  go_wp2_with fail
  refine (aam HA.out.1.2 adf (by decide) e1 (aas e1)).mono ?_
  rintro e wn ⟨rfl,hmn⟩
  have HAn:=ke (HA.out.move hmn)
  clear hmn HA
  have HA:=HAn
  clear HAn
  go_wp2_with fail
  refine (aam HA.out.1.2 ae3 (by decide) e2 (aas e2)).mono ?_
  rintro e wn ⟨rfl,hmn⟩
  have HAn:=ke (HA.out.move hmn)
  clear hmn HA
  have HA:=HAn
  clear HAn
  go_wp2_with fail
  refine (aam HA.out.1.2 afk (by decide) e3 (aas e3)).mono ?_
  rintro e wn ⟨rfl,hmn⟩
  have HAn:=ke (HA.out.move hmn)
  clear hmn HA
  have HA:=HAn
  clear HAn
  go_wp2_with fail
  refine (aam HA.out.1.2 aeq (by decide) e4 (aas e4)).mono ?_
  rintro e wn ⟨rfl,hmn⟩
  have HAn:=ke (HA.out.move hmn)
  clear hmn HA
  have HA:=HAn
  clear HAn
  go_wp2_with fail
  refine (aam HA.out.1.2 aj9 (by decide) e5 (aas e5)).mono ?_
  rintro e wn ⟨rfl,hmn⟩
  have HAn:=ke (HA.out.move hmn)
  clear hmn HA
  have HA:=HAn
  clear HAn
  go_wp2_with fail
  refine (agv hk HA.out.1.2).mono ?_
  rintro e wn ⟨rfl,hmn⟩
  have HAn:=ke (HA.out.move hmn)
  clear hmn HA
  have HA:=HAn
  clear HAn
  go_wp2_with fail
  refine (ai4 hk HA.out.1.2).mono ?_
  rintro e wn ⟨rfl,hmn⟩
  have HAn:=ke (HA.out.move hmn)
  clear hmn HA
  have HA:=HAn
  clear HAn
  go_wp2_with fail
  have hqc:=age HA.out.1.2
  rw [HTY.out] at hqc
  refine hqc.mono ?_
  clear hqc
  rintro e wn ⟨rfl,hmn⟩
  have HAn:=ke (HA.out.move hmn)
  clear hmn HA
  have HA:=HAn
  clear HAn
  go_wp2_with fail
  have hqn:=aet HA.out.1.2 ado fx_cols (by decide)
  rw [HST.out] at hqn
  refine hqn.mono ?_
  clear hqn
  rintro e wn ⟨rfl,hmn⟩
  have HAn:=ke (HA.out.move hmn)
  clear hmn HA
  have HA:=HAn
  clear HAn
  go_wp2_with fail
  refine (HNM.out _ HA.out.1.2).mono ?_
  rintro e wn ⟨rfl,hmn⟩
  have HAn:=ke (HA.out.move hmn)
  clear hmn HA
  have HA:=HAn
  clear HAn
  go_wp2_with fail
  refine (HSG.out _ HA.out.1.2).mono ?_
  rintro e wn2 ⟨rfl,rfl⟩
  have hwl:=HA.out.2.1.lt
  go_wp2_with fail
  refine (HAR.out _ HA.out.1.2).mono ?_
  rintro e w4 ⟨v2,ys,rfl,ho2,hby,hyl,hmn⟩
  obtain ⟨A2,cap2,rfl⟩:=ho2.form
  have HAn:=ke (HA.out.move hmn)
  have HO2:=ke ho2
  have HBY:=ke hby
  clear hmn HA ho2 hby
  have HA:=HAn
  clear HAn
  obtain ⟨r0,r1,r2,r3,r4,r5,r6,r7⟩:=HA.out.cells
  have g0:=HA.out.2.1.fro 0
  have g1:=HA.out.2.1.fro 1
  have g2:=HA.out.2.1.fro 2
  have g3:=HA.out.2.1.fro 3
  have g4:=HA.out.2.1.fro 4
  have g5:=HA.out.2.1.fro 5
  have g6:=HA.out.2.1.fro 6
  have g7:=HA.out.2.1.fro 7
  obtain ⟨z0,z1,z2,z3,z4,z5,z6,z7⟩:=(HA.out.2.1.to_8 (.int .i64 13) (.int .i32 0) (.string ⟨#[]⟩) (.string t) (.string ty) (.slice A2 ys.length cap2) (.string ⟨#[]⟩) (.int .i64 0)).all_8
  go_wp2_with fail
  (try simp only [Exit.inBlock,Exit.then])
  refine bodyPost_ret (v:=.agg #[.int .i64 13,.int .i32 0,.string ⟨#[]⟩,.string t,.string ty,.slice A2 ys.length cap2,.string ⟨#[]⟩,.int .i64 0]) (by simp [results,Tryz.results145,go_sem,z0,z1,z2,z3,z4,z5,z6,z7]) rfl ?_
  exact HA.out.args HO2.out hwl HBY.out 13 t ty ⟨hnz,htz⟩ rfl
theorem atom_class_bare (K:QC) (s:RS) (w:World) (N:Nat) (IH:∀ m,m < N→agl m) (hN:20 * s.len+3≤N) (h:Rq K s w) (hk:afp K s false false false true) (e0:s.sees 0 acy=false) (e1:s.sees 0 abq=false) (e2:s.sees 0 adv=false) (e3:s.sees 0 aeh=false) (e4:s.sees 0 abp=false) (e5:s.sees 0 sNew=false) (hR:RX .atom s=RX (.used 9 13 s.classV []) (s.class.need ado)) (ho:(s.class.need ado).name.sees 0 aah=false):Calls Tryz.prog 145 #[.pointer (some ⟨K.c,0,none⟩)] w (ExQ K w (RX .atom s)):=by
 obtain ⟨st,hst⟩:∃ st,s.class.need ado=st:=⟨_,rfl⟩
 obtain ⟨ty,hty⟩:∃ ty,s.classV=ty:=⟨_,rfl⟩
 have htz:ty.size≤maxLen:=by rw [← hty];exact ab7 _
 have h1:=aaz s
 have h2:=aan s.class ado
 rw [hst] at h2
 rw [hst] at hR ho
 have HST:=ke hst
 rw [hty] at hR
 have HTY:=ke hty
 have h3:=abg st
 rw [ahr] at hR
 obtain ⟨s1,hs1⟩:∃ s1,st.name=s1:=⟨_,rfl⟩
 obtain ⟨t,htn⟩:∃ t,st.nameV=t:=⟨_,rfl⟩
 have hnz:t.size≤maxLen:=by rw [← htn];exact abz _
 rw [hs1] at hR ho h3
 rw [htn,ho] at hR
 simp only [if_true,Bool.false_eq_true,if_false,List.nil_append] at hR
 have HNM:Hid (∀ w',Rq K st w'→Calls Tryz.prog 52 #[.pointer (some ⟨K.c,0,none⟩)] w' fun e w''=>e=.returned (.string t)∧Tq K s1 w' w''):=ke fun w' h'=>by rw [← hs1,← htn];exact afh h'
 have HSG:Hid (∀ w',Rq K s1 w'→Calls Tryz.prog 22 #[.pointer (some ⟨K.c,0,none⟩),.string aah] w' fun e w''=>e=.returned (.bool false)∧w'=w''):=ke fun w' h'=>by
  have:=aa9 h' adl (by decide)
  rw [ho] at this;exact this
 have HRR:=ke hR
 rw [hR]
 clear hR hst hty hs1 htn ho IH hN
 have HA0:=ke (AtQ.start h)
 have HI2:=ke (adz hk HA0.out.1.2)
 obtain ⟨q,hm,hr⟩:=HA0.out.1.2
 have HNT:=ke (fun hb x hx=>ac0 hk hr hb (x:=x) hx)
 obtain ⟨c0,_,c2,c3,_,_⟩:=hm.cells
 have hfew:=hm.few
 have HM:=ke hm
 obtain ⟨W1,hW1⟩:∃ W1,W1=w.alloc (.cells #[.int .i64 0,.int .i32 0,.string ⟨#[]⟩,.string ⟨#[]⟩,.string ⟨#[]⟩,.slice none 0 0,.string ⟨#[]⟩,.int .i64 0] 35):=⟨_,rfl⟩
 rw [← hW1] at HA0 HI2 HM c0 c2 c3
 have HI3:=ke (fun (w':World) (hb:Below W1.heap.size W1 w')=>ady hk (HA0.out.below hb).1.2)
 have HW1:=ke hW1
 clear hm hr hW1
 go_enter Tryz.func145,Tryz.ntmps145
 go_upto_region 1 with (fail)
 rw [← HW1.out]
 go_upto_region 3 with (go_at_call 49;refine HI2.out.mono ?_;rintro e w1 ⟨rfl,rfl⟩)
 go_cut [15] from 16 to 50 (fun v15 wx=>v15=.bool false∧AtQ K w s wx)
 case first =>
  by_cases hb:q.bd=0
  ·by_cases hl:q.k < K.L.length
   ·obtain ⟨x,hx⟩:∃ x,K.L[q.k]?=some x:=⟨K.L[q.k]'hl,List.getElem?_eq_getElem _⟩
    have hx3:=HNT.out hb x hx
    obtain ⟨gw,ow,hA,d0,_,_⟩:=HM.out.word hx
    rw [hA] at c0
    have hx4:((x.k:Int) == 3)=false:=by rw [beq_eq_false_iff_ne];omega
    have hl2:(q.k:Int) < K.L.length:=by omega
    have hl3:decide ((q.k:Int) < K.L.length)=true:=decide_eq_true hl2
    have hl4:decide (q.k < K.L.length)=true:=decide_eq_true hl
    have hz0:(0:Int)≤q.k:=by omega
    rw [hb] at c3
    clear hx hA hb hx3
    go_quiet ((go_at_call 49;exact Calls.quiet_of_same ((HI3.out _ (by first|exact Below.refl _ _|exact below_drewN (Below.refl _ _) _)).mono fun e w' hh=>⟨hh.1,hh.2.symm⟩)))
    (try go_wp2_with fail)
    go_meet
    case rel=>exact ⟨rfl,HA0.out.below (below_drewN (Below.refl _ _) _)⟩
   ·have hl2:¬ (q.k:Int) < K.L.length:=by omega
    have hl3:decide ((q.k:Int) < K.L.length)=false:=decide_eq_false hl2
    have hl4:decide (q.k < K.L.length)=false:=decide_eq_false hl
    rw [hb] at c3
    clear hb
    go_quiet ((go_at_call 49;exact Calls.quiet_of_same ((HI3.out _ (by first|exact Below.refl _ _|exact below_drewN (Below.refl _ _) _)).mono fun e w' hh=>⟨hh.1,hh.2.symm⟩)))
    (try go_wp2_with fail)
    go_meet
    case rel=>exact ⟨rfl,HA0.out.below (below_drewN (Below.refl _ _) _)⟩
  ·have hb1:(q.bd == (0:Int))=false:=by simpa using hb
   have hb2:decide (q.bd=(0:Int))=false:=decide_eq_false hb
   clear hb
   go_quiet ((go_at_call 49;exact Calls.quiet_of_same ((HI3.out _ (by first|exact Below.refl _ _|exact below_drewN (Below.refl _ _) _)).mono fun e w' hh=>⟨hh.1,hh.2.symm⟩)))
   (try go_wp2_with fail)
   go_meet
   case rel=>exact ⟨rfl,HA0.out.below (below_drewN (Below.refl _ _) _)⟩
 case rest =>
  obtain ⟨rfl,hA⟩:=hcut
  have HA:=ke hA
  clear hA c0 c2 c3 HI2 HI3 HNT HM HA0 HW1
  go_wp2_with fail
  refine (aam HA.out.1.2 aee (by decide) e0 (aas e0)).mono ?_
  rintro e wn ⟨rfl,hmn⟩
  have HAn:=ke (HA.out.move hmn)
  clear hmn HA
  have HA:=HAn
  clear HAn
  go_wp2_with fail
  refine (aam HA.out.1.2 adf (by decide) e1 (aas e1)).mono ?_
  rintro e wn ⟨rfl,hmn⟩
  have HAn:=ke (HA.out.move hmn)
  clear hmn HA
  have HA:=HAn
  clear HAn
  go_wp2_with fail
  refine (aam HA.out.1.2 ae3 (by decide) e2 (aas e2)).mono ?_
  rintro e wn ⟨rfl,hmn⟩
  have HAn:=ke (HA.out.move hmn)
  clear hmn HA
  have HA:=HAn
  clear HAn
  go_wp2_with fail
  refine (aam HA.out.1.2 afk (by decide) e3 (aas e3)).mono ?_
  rintro e wn ⟨rfl,hmn⟩
  have HAn:=ke (HA.out.move hmn)
  clear hmn HA
  have HA:=HAn
  clear HAn
  go_wp2_with fail
  refine (aam HA.out.1.2 aeq (by decide) e4 (aas e4)).mono ?_
  rintro e wn ⟨rfl,hmn⟩
  have HAn:=ke (HA.out.move hmn)
  clear hmn HA
  have HA:=HAn
  clear HAn
  go_wp2_with fail
  refine (aam HA.out.1.2 aj9 (by decide) e5 (aas e5)).mono ?_
  rintro e wn ⟨rfl,hmn⟩
  have HAn:=ke (HA.out.move hmn)
  clear hmn HA
  have HA:=HAn
  clear HAn
  go_wp2_with fail
  refine (agv hk HA.out.1.2).mono ?_
  rintro e wn ⟨rfl,hmn⟩
  have HAn:=ke (HA.out.move hmn)
  clear hmn HA
  have HA:=HAn
  clear HAn
  go_wp2_with fail
  refine (ai4 hk HA.out.1.2).mono ?_
  rintro e wn ⟨rfl,hmn⟩
  have HAn:=ke (HA.out.move hmn)
  clear hmn HA
  have HA:=HAn
  clear HAn
  go_wp2_with fail
  have hqc:=age HA.out.1.2
  rw [HTY.out] at hqc
  refine hqc.mono ?_
  clear hqc
  rintro e wn ⟨rfl,hmn⟩
  have HAn:=ke (HA.out.move hmn)
  clear hmn HA
  have HA:=HAn
  clear HAn
  go_wp2_with fail
  have hqn:=aet HA.out.1.2 ado fx_cols (by decide)
  rw [HST.out] at hqn
  refine hqn.mono ?_
  clear hqn
  rintro e wn ⟨rfl,hmn⟩
  have HAn:=ke (HA.out.move hmn)
  clear hmn HA
  have HA:=HAn
  clear HAn
  go_wp2_with fail
  refine (HNM.out _ HA.out.1.2).mono ?_
  rintro e wn ⟨rfl,hmn⟩
  have HAn:=ke (HA.out.move hmn)
  clear hmn HA
  have HA:=HAn
  clear HAn
  go_wp2_with fail
  refine (HSG.out _ HA.out.1.2).mono ?_
  rintro e wn2 ⟨rfl,rfl⟩
  obtain ⟨r0,r1,r2,r3,r4,r5,r6,r7⟩:=HA.out.cells
  have g0:=HA.out.2.1.fro 0
  have g1:=HA.out.2.1.fro 1
  have g2:=HA.out.2.1.fro 2
  have g3:=HA.out.2.1.fro 3
  have g4:=HA.out.2.1.fro 4
  have g5:=HA.out.2.1.fro 5
  have g6:=HA.out.2.1.fro 6
  have g7:=HA.out.2.1.fro 7
  obtain ⟨z0,z1,z2,z3,z4,z5,z6,z7⟩:=(HA.out.2.1.to_8 (.int .i64 9) (.int .i32 0) (.string ⟨#[]⟩) (.string t) (.string ty) (.slice none 0 0) (.string ⟨#[]⟩) (.int .i64 0)).all_8
  go_wp2_with fail
  (try simp only [Exit.inBlock,Exit.then])
  refine bodyPost_ret (v:=.agg #[.int .i64 9,.int .i32 0,.string ⟨#[]⟩,.string t,.string ty,.slice none 0 0,.string ⟨#[]⟩,.int .i64 0]) (by simp [results,Tryz.results145,go_sem,z0,z1,z2,z3,z4,z5,z6,z7]) rfl ?_
  exact HA.out.leaf 9 0 ⟨#[]⟩ t ty ⟨Nat.zero_le _,hnz,htz⟩ rfl
end
section
open Go.RowKit
theorem atom_super_args (K:QC) (s:RS) (w:World) (N:Nat) (IH:∀ m,m < N→agl m) (hN:20 * s.len+3≤N) (h:Rq K s w) (hk:afp K s false false false false) (e0:s.sees 0 acy=false) (e1:s.sees 0 abq=false) (e2:s.sees 0 adv=false) (e3:s.sees 0 aeh=false) (e4:s.sees 0 abp=true) (hR:RX .atom s=RX (.used 8 12 E0 []) (s.skip.need af5)) (ho:(s.skip.need af5).name.sees 0 aah=true):Calls Tryz.prog 145 #[.pointer (some ⟨K.c,0,none⟩)] w (ExQ K w (RX .atom s)):=by
 obtain ⟨st,hst⟩:∃ st,s.skip.need af5=st:=⟨_,rfl⟩
 have h1:=aaf s
 have h2:=aan s.skip af5
 rw [hst] at h2
 rw [hst] at hR ho
 have HST:=ke hst
 have h3:=abg st
 rw [ahr] at hR
 obtain ⟨s1,hs1⟩:∃ s1,st.name=s1:=⟨_,rfl⟩
 obtain ⟨t,htn⟩:∃ t,st.nameV=t:=⟨_,rfl⟩
 have hnz:t.size≤maxLen:=by rw [← htn];exact abz _
 rw [hs1] at hR ho h3
 rw [htn,ho] at hR
 simp only [if_true,Bool.false_eq_true,if_false,List.nil_append] at hR
 have HNM:Hid (∀ w',Rq K st w'→Calls Tryz.prog 52 #[.pointer (some ⟨K.c,0,none⟩)] w' fun e w''=>e=.returned (.string t)∧Tq K s1 w' w''):=ke fun w' h'=>by rw [← hs1,← htn];exact afh h'
 have HSG:Hid (∀ w',Rq K s1 w'→Calls Tryz.prog 22 #[.pointer (some ⟨K.c,0,none⟩),.string aah] w' fun e w''=>e=.returned (.bool true)∧w'=w''):=ke fun w' h'=>by
  have:=aa9 h' adl (by decide)
  rw [ho] at this;exact this
 have h4:=aa5 ho
 obtain ⟨q2,hq2⟩:∃ q2,RX .args s1=q2:=⟨_,rfl⟩
 rw [hq2] at hR
 have HAR:Hid (∀ w',Rq K s1 w'→Calls Tryz.prog 136 #[.pointer (some ⟨K.c,0,none⟩)] w' (LsQ K w' q2)):=ke fun w' h'=>by
  have:=IH (20 * s1.len+14) (by omega) K s1 w' h' (Nat.le_refl _)
  rw [hq2] at this;exact this
 have HRR:=ke hR
 rw [hR]
 clear hR hst hs1 htn ho IH hN hq2
 have HA0:=ke (AtQ.start h)
 have HI2:=ke (adz hk HA0.out.1.2)
 obtain ⟨q,hm,hr⟩:=HA0.out.1.2
 have HNT:=ke (fun hb x hx=>ac0 hk hr hb (x:=x) hx)
 obtain ⟨c0,_,c2,c3,_,_⟩:=hm.cells
 have hfew:=hm.few
 have HM:=ke hm
 obtain ⟨W1,hW1⟩:∃ W1,W1=w.alloc (.cells #[.int .i64 0,.int .i32 0,.string ⟨#[]⟩,.string ⟨#[]⟩,.string ⟨#[]⟩,.slice none 0 0,.string ⟨#[]⟩,.int .i64 0] 35):=⟨_,rfl⟩
 rw [← hW1] at HA0 HI2 HM c0 c2 c3
 have HI3:=ke (fun (w':World) (hb:Below W1.heap.size W1 w')=>ady hk (HA0.out.below hb).1.2)
 have HW1:=ke hW1
 clear hm hr hW1
 go_enter Tryz.func145,Tryz.ntmps145
 go_upto_region 1 with (fail)
 rw [← HW1.out]
 go_upto_region 3 with (go_at_call 49;refine HI2.out.mono ?_;rintro e w1 ⟨rfl,rfl⟩)
 go_cut [15] from 16 to 50 (fun v15 wx=>v15=.bool false∧AtQ K w s wx)
 case first =>
  by_cases hb:q.bd=0
  ·by_cases hl:q.k < K.L.length
   ·obtain ⟨x,hx⟩:∃ x,K.L[q.k]?=some x:=⟨K.L[q.k]'hl,List.getElem?_eq_getElem _⟩
    have hx3:=HNT.out hb x hx
    obtain ⟨gw,ow,hA,d0,_,_⟩:=HM.out.word hx
    rw [hA] at c0
    have hx4:((x.k:Int) == 3)=false:=by rw [beq_eq_false_iff_ne];omega
    have hl2:(q.k:Int) < K.L.length:=by omega
    have hl3:decide ((q.k:Int) < K.L.length)=true:=decide_eq_true hl2
    have hl4:decide (q.k < K.L.length)=true:=decide_eq_true hl
    have hz0:(0:Int)≤q.k:=by omega
    rw [hb] at c3
    clear hx hA hb hx3
    go_quiet ((go_at_call 49;exact Calls.quiet_of_same ((HI3.out _ (by first|exact Below.refl _ _|exact below_drewN (Below.refl _ _) _)).mono fun e w' hh=>⟨hh.1,hh.2.symm⟩)))
    (try go_wp2_with fail)
    go_meet
    case rel=>exact ⟨rfl,HA0.out.below (below_drewN (Below.refl _ _) _)⟩
   ·have hl2:¬ (q.k:Int) < K.L.length:=by omega
    have hl3:decide ((q.k:Int) < K.L.length)=false:=decide_eq_false hl2
    have hl4:decide (q.k < K.L.length)=false:=decide_eq_false hl
    rw [hb] at c3
    clear hb
    go_quiet ((go_at_call 49;exact Calls.quiet_of_same ((HI3.out _ (by first|exact Below.refl _ _|exact below_drewN (Below.refl _ _) _)).mono fun e w' hh=>⟨hh.1,hh.2.symm⟩)))
    (try go_wp2_with fail)
    go_meet
    case rel=>exact ⟨rfl,HA0.out.below (below_drewN (Below.refl _ _) _)⟩
  ·have hb1:(q.bd == (0:Int))=false:=by simpa using hb
   have hb2:decide (q.bd=(0:Int))=false:=decide_eq_false hb
   clear hb
   go_quiet ((go_at_call 49;exact Calls.quiet_of_same ((HI3.out _ (by first|exact Below.refl _ _|exact below_drewN (Below.refl _ _) _)).mono fun e w' hh=>⟨hh.1,hh.2.symm⟩)))
   (try go_wp2_with fail)
   go_meet
   case rel=>exact ⟨rfl,HA0.out.below (below_drewN (Below.refl _ _) _)⟩
 case rest =>
  obtain ⟨rfl,hA⟩:=hcut
  have HA:=ke hA
  clear hA c0 c2 c3 HI2 HI3 HNT HM HA0 HW1
  go_wp2_with fail
  refine (aam HA.out.1.2 aee (by decide) e0 (aas e0)).mono ?_
  rintro e wn ⟨rfl,hmn⟩
  have HAn:=ke (HA.out.move hmn)
  clear hmn HA
  have HA:=HAn
  clear HAn
  go_wp2_with fail
  refine (aam HA.out.1.2 adf (by decide) e1 (aas e1)).mono ?_
  rintro e wn ⟨rfl,hmn⟩
  have HAn:=ke (HA.out.move hmn)
  clear hmn HA
  have HA:=HAn
  clear HAn
  go_wp2_with fail
  refine (aam HA.out.1.2 ae3 (by decide) e2 (aas e2)).mono ?_
  rintro e wn ⟨rfl,hmn⟩
  have HAn:=ke (HA.out.move hmn)
  clear hmn HA
  have HA:=HAn
  clear HAn
  go_wp2_with fail
  refine (aam HA.out.1.2 afk (by decide) e3 (aas e3)).mono ?_
  rintro e wn ⟨rfl,hmn⟩
  have HAn:=ke (HA.out.move hmn)
  clear hmn HA
  have HA:=HAn
  clear HAn
  go_wp2_with fail
  refine (aam HA.out.1.2 aeq (by decide) e4 (afx e4)).mono ?_
  rintro e wn ⟨rfl,hmn⟩
  have HAn:=ke (HA.out.move hmn)
  clear hmn HA
  have HA:=HAn
  clear HAn
  go_wp2_with fail
  have hqn:=aet HA.out.1.2 af5 fx_dot (by decide)
  rw [HST.out] at hqn
  refine hqn.mono ?_
  clear hqn
  rintro e wn ⟨rfl,hmn⟩
  have HAn:=ke (HA.out.move hmn)
  clear hmn HA
  have HA:=HAn
  clear HAn
  go_wp2_with fail
  refine (HNM.out _ HA.out.1.2).mono ?_
  rintro e wn ⟨rfl,hmn⟩
  have HAn:=ke (HA.out.move hmn)
  clear hmn HA
  have HA:=HAn
  clear HAn
  go_wp2_with fail
  refine (HSG.out _ HA.out.1.2).mono ?_
  rintro e wn2 ⟨rfl,rfl⟩
  have hwl:=HA.out.2.1.lt
  go_wp2_with fail
  refine (HAR.out _ HA.out.1.2).mono ?_
  rintro e w4 ⟨v2,ys,rfl,ho2,hby,hyl,hmn⟩
  obtain ⟨A2,cap2,rfl⟩:=ho2.form
  have HAn:=ke (HA.out.move hmn)
  have HO2:=ke ho2
  have HBY:=ke hby
  clear hmn HA ho2 hby
  have HA:=HAn
  clear HAn
  obtain ⟨r0,r1,r2,r3,r4,r5,r6,r7⟩:=HA.out.cells
  have g0:=HA.out.2.1.fro 0
  have g1:=HA.out.2.1.fro 1
  have g2:=HA.out.2.1.fro 2
  have g3:=HA.out.2.1.fro 3
  have g4:=HA.out.2.1.fro 4
  have g5:=HA.out.2.1.fro 5
  have g6:=HA.out.2.1.fro 6
  have g7:=HA.out.2.1.fro 7
  obtain ⟨z0,z1,z2,z3,z4,z5,z6,z7⟩:=(HA.out.2.1.to_8 (.int .i64 12) (.int .i32 0) (.string ⟨#[]⟩) (.string t) (.string ⟨#[]⟩) (.slice A2 ys.length cap2) (.string ⟨#[]⟩) (.int .i64 0)).all_8
  go_wp2_with fail
  (try simp only [Exit.inBlock,Exit.then])
  refine bodyPost_ret (v:=.agg #[.int .i64 12,.int .i32 0,.string ⟨#[]⟩,.string t,.string ⟨#[]⟩,.slice A2 ys.length cap2,.string ⟨#[]⟩,.int .i64 0]) (by simp [results,Tryz.results145,go_sem,z0,z1,z2,z3,z4,z5,z6,z7]) rfl ?_
  exact HA.out.args HO2.out hwl HBY.out 12 t ⟨#[]⟩ ⟨hnz,Nat.zero_le _⟩ rfl
theorem atom_super_bare (K:QC) (s:RS) (w:World) (N:Nat) (IH:∀ m,m < N→agl m) (hN:20 * s.len+3≤N) (h:Rq K s w) (hk:afp K s false false false false) (e0:s.sees 0 acy=false) (e1:s.sees 0 abq=false) (e2:s.sees 0 adv=false) (e3:s.sees 0 aeh=false) (e4:s.sees 0 abp=true) (hR:RX .atom s=RX (.used 8 12 E0 []) (s.skip.need af5)) (ho:(s.skip.need af5).name.sees 0 aah=false):Calls Tryz.prog 145 #[.pointer (some ⟨K.c,0,none⟩)] w (ExQ K w (RX .atom s)):=by
 obtain ⟨st,hst⟩:∃ st,s.skip.need af5=st:=⟨_,rfl⟩
 have h1:=aaf s
 have h2:=aan s.skip af5
 rw [hst] at h2
 rw [hst] at hR ho
 have HST:=ke hst
 have h3:=abg st
 rw [ahr] at hR
 obtain ⟨s1,hs1⟩:∃ s1,st.name=s1:=⟨_,rfl⟩
 obtain ⟨t,htn⟩:∃ t,st.nameV=t:=⟨_,rfl⟩
 have hnz:t.size≤maxLen:=by rw [← htn];exact abz _
 rw [hs1] at hR ho h3
 rw [htn,ho] at hR
 simp only [if_true,Bool.false_eq_true,if_false,List.nil_append] at hR
 have HNM:Hid (∀ w',Rq K st w'→Calls Tryz.prog 52 #[.pointer (some ⟨K.c,0,none⟩)] w' fun e w''=>e=.returned (.string t)∧Tq K s1 w' w''):=ke fun w' h'=>by rw [← hs1,← htn];exact afh h'
 have HSG:Hid (∀ w',Rq K s1 w'→Calls Tryz.prog 22 #[.pointer (some ⟨K.c,0,none⟩),.string aah] w' fun e w''=>e=.returned (.bool false)∧w'=w''):=ke fun w' h'=>by
  have:=aa9 h' adl (by decide)
  rw [ho] at this;exact this
 have HRR:=ke hR
 rw [hR]
 clear hR hst hs1 htn ho IH hN
 have HA0:=ke (AtQ.start h)
 have HI2:=ke (adz hk HA0.out.1.2)
 obtain ⟨q,hm,hr⟩:=HA0.out.1.2
 have HNT:=ke (fun hb x hx=>ac0 hk hr hb (x:=x) hx)
 obtain ⟨c0,_,c2,c3,_,_⟩:=hm.cells
 have hfew:=hm.few
 have HM:=ke hm
 obtain ⟨W1,hW1⟩:∃ W1,W1=w.alloc (.cells #[.int .i64 0,.int .i32 0,.string ⟨#[]⟩,.string ⟨#[]⟩,.string ⟨#[]⟩,.slice none 0 0,.string ⟨#[]⟩,.int .i64 0] 35):=⟨_,rfl⟩
 rw [← hW1] at HA0 HI2 HM c0 c2 c3
 have HI3:=ke (fun (w':World) (hb:Below W1.heap.size W1 w')=>ady hk (HA0.out.below hb).1.2)
 have HW1:=ke hW1
 clear hm hr hW1
 go_enter Tryz.func145,Tryz.ntmps145
 go_upto_region 1 with (fail)
 rw [← HW1.out]
 go_upto_region 3 with (go_at_call 49;refine HI2.out.mono ?_;rintro e w1 ⟨rfl,rfl⟩)
 go_cut [15] from 16 to 50 (fun v15 wx=>v15=.bool false∧AtQ K w s wx)
 case first =>
  by_cases hb:q.bd=0
  ·by_cases hl:q.k < K.L.length
   ·obtain ⟨x,hx⟩:∃ x,K.L[q.k]?=some x:=⟨K.L[q.k]'hl,List.getElem?_eq_getElem _⟩
    have hx3:=HNT.out hb x hx
    obtain ⟨gw,ow,hA,d0,_,_⟩:=HM.out.word hx
    rw [hA] at c0
    have hx4:((x.k:Int) == 3)=false:=by rw [beq_eq_false_iff_ne];omega
    have hl2:(q.k:Int) < K.L.length:=by omega
    have hl3:decide ((q.k:Int) < K.L.length)=true:=decide_eq_true hl2
    have hl4:decide (q.k < K.L.length)=true:=decide_eq_true hl
    have hz0:(0:Int)≤q.k:=by omega
    rw [hb] at c3
    clear hx hA hb hx3
    go_quiet ((go_at_call 49;exact Calls.quiet_of_same ((HI3.out _ (by first|exact Below.refl _ _|exact below_drewN (Below.refl _ _) _)).mono fun e w' hh=>⟨hh.1,hh.2.symm⟩)))
    (try go_wp2_with fail)
    go_meet
    case rel=>exact ⟨rfl,HA0.out.below (below_drewN (Below.refl _ _) _)⟩
   ·have hl2:¬ (q.k:Int) < K.L.length:=by omega
    have hl3:decide ((q.k:Int) < K.L.length)=false:=decide_eq_false hl2
    have hl4:decide (q.k < K.L.length)=false:=decide_eq_false hl
    rw [hb] at c3
    clear hb
    go_quiet ((go_at_call 49;exact Calls.quiet_of_same ((HI3.out _ (by first|exact Below.refl _ _|exact below_drewN (Below.refl _ _) _)).mono fun e w' hh=>⟨hh.1,hh.2.symm⟩)))
    (try go_wp2_with fail)
    go_meet
    case rel=>exact ⟨rfl,HA0.out.below (below_drewN (Below.refl _ _) _)⟩
  ·have hb1:(q.bd == (0:Int))=false:=by simpa using hb
   have hb2:decide (q.bd=(0:Int))=false:=decide_eq_false hb
   clear hb
   go_quiet ((go_at_call 49;exact Calls.quiet_of_same ((HI3.out _ (by first|exact Below.refl _ _|exact below_drewN (Below.refl _ _) _)).mono fun e w' hh=>⟨hh.1,hh.2.symm⟩)))
   (try go_wp2_with fail)
   go_meet
   case rel=>exact ⟨rfl,HA0.out.below (below_drewN (Below.refl _ _) _)⟩
 case rest =>
  obtain ⟨rfl,hA⟩:=hcut
  have HA:=ke hA
  clear hA c0 c2 c3 HI2 HI3 HNT HM HA0 HW1
  go_wp2_with fail
  refine (aam HA.out.1.2 aee (by decide) e0 (aas e0)).mono ?_
  rintro e wn ⟨rfl,hmn⟩
  have HAn:=ke (HA.out.move hmn)
  clear hmn HA
  have HA:=HAn
  clear HAn
  go_wp2_with fail
  refine (aam HA.out.1.2 adf (by decide) e1 (aas e1)).mono ?_
  rintro e wn ⟨rfl,hmn⟩
  have HAn:=ke (HA.out.move hmn)
  clear hmn HA
  have HA:=HAn
  clear HAn
  go_wp2_with fail
  refine (aam HA.out.1.2 ae3 (by decide) e2 (aas e2)).mono ?_
  rintro e wn ⟨rfl,hmn⟩
  have HAn:=ke (HA.out.move hmn)
  clear hmn HA
  have HA:=HAn
  clear HAn
  go_wp2_with fail
  refine (aam HA.out.1.2 afk (by decide) e3 (aas e3)).mono ?_
  rintro e wn ⟨rfl,hmn⟩
  have HAn:=ke (HA.out.move hmn)
  clear hmn HA
  have HA:=HAn
  clear HAn
  go_wp2_with fail
  refine (aam HA.out.1.2 aeq (by decide) e4 (afx e4)).mono ?_
  rintro e wn ⟨rfl,hmn⟩
  have HAn:=ke (HA.out.move hmn)
  clear hmn HA
  have HA:=HAn
  clear HAn
  go_wp2_with fail
  have hqn:=aet HA.out.1.2 af5 fx_dot (by decide)
  rw [HST.out] at hqn
  refine hqn.mono ?_
  clear hqn
  rintro e wn ⟨rfl,hmn⟩
  have HAn:=ke (HA.out.move hmn)
  clear hmn HA
  have HA:=HAn
  clear HAn
  go_wp2_with fail
  refine (HNM.out _ HA.out.1.2).mono ?_
  rintro e wn ⟨rfl,hmn⟩
  have HAn:=ke (HA.out.move hmn)
  clear hmn HA
  have HA:=HAn
  clear HAn
  go_wp2_with fail
  refine (HSG.out _ HA.out.1.2).mono ?_
  rintro e wn2 ⟨rfl,rfl⟩
  obtain ⟨r0,r1,r2,r3,r4,r5,r6,r7⟩:=HA.out.cells
  have g0:=HA.out.2.1.fro 0
  have g1:=HA.out.2.1.fro 1
  have g2:=HA.out.2.1.fro 2
  have g3:=HA.out.2.1.fro 3
  have g4:=HA.out.2.1.fro 4
  have g5:=HA.out.2.1.fro 5
  have g6:=HA.out.2.1.fro 6
  have g7:=HA.out.2.1.fro 7
  obtain ⟨z0,z1,z2,z3,z4,z5,z6,z7⟩:=(HA.out.2.1.to_8 (.int .i64 8) (.int .i32 0) (.string ⟨#[]⟩) (.string t) (.string ⟨#[]⟩) (.slice none 0 0) (.string ⟨#[]⟩) (.int .i64 0)).all_8
  go_wp2_with fail
  (try simp only [Exit.inBlock,Exit.then])
  refine bodyPost_ret (v:=.agg #[.int .i64 8,.int .i32 0,.string ⟨#[]⟩,.string t,.string ⟨#[]⟩,.slice none 0 0,.string ⟨#[]⟩,.int .i64 0]) (by simp [results,Tryz.results145,go_sem,z0,z1,z2,z3,z4,z5,z6,z7]) rfl ?_
  exact HA.out.leaf 8 0 ⟨#[]⟩ t ⟨#[]⟩ ⟨Nat.zero_le _,hnz,Nat.zero_le _⟩ rfl
end
section
open Go.RowKit
theorem atom_new (K:QC) (s:RS) (w:World) (N:Nat) (IH:∀ m,m < N→agl m) (hN:20 * s.len+3≤N) (h:Rq K s w) (hk:afp K s false false false false) (e0:s.sees 0 acy=false) (e1:s.sees 0 abq=false) (e2:s.sees 0 adv=false) (e3:s.sees 0 aeh=false) (e4:s.sees 0 abp=false) (e5:s.sees 0 sNew=true) (hR:RX .atom s=([mkE 14 0 E0 E0 s.skip.classV (RX .args s.skip.class).1],(RX .args s.skip.class).2)):Calls Tryz.prog 145 #[.pointer (some ⟨K.c,0,none⟩)] w (ExQ K w (RX .atom s)):=by
 obtain ⟨s1,hs1⟩:∃ s1,s.skip.class=s1:=⟨_,rfl⟩
 obtain ⟨ty,hty⟩:∃ ty,s.skip.classV=ty:=⟨_,rfl⟩
 have htz:ty.size≤maxLen:=by rw [← hty];exact ab7 _
 have h1:=aaf s
 have h2:=aaz s.skip
 have h3:=aa5 e5
 rw [hs1] at h2 hR
 rw [hty] at hR
 have HCL:Hid (∀ w',Rq K s.skip w'→Calls Tryz.prog 20 #[.pointer (some ⟨K.c,0,none⟩)] w' fun e w''=>e=.returned (.string ty)∧Tq K s1 w' w''):=ke fun w' h'=>by rw [← hs1,← hty];exact age h'
 obtain ⟨q2,hq2⟩:∃ q2,RX .args s1=q2:=⟨_,rfl⟩
 rw [hq2] at hR
 have HAR:Hid (∀ w',Rq K s1 w'→Calls Tryz.prog 136 #[.pointer (some ⟨K.c,0,none⟩)] w' (LsQ K w' q2)):=ke fun w' h'=>by
  have:=IH (20 * s1.len+14) (by omega) K s1 w' h' (Nat.le_refl _)
  rw [hq2] at this;exact this
 have HRR:=ke hR
 rw [hR]
 clear hR hs1 hty IH hN hq2
 have HA0:=ke (AtQ.start h)
 have HI2:=ke (adz hk HA0.out.1.2)
 obtain ⟨q,hm,hr⟩:=HA0.out.1.2
 have HNT:=ke (fun hb x hx=>ac0 hk hr hb (x:=x) hx)
 obtain ⟨c0,_,c2,c3,_,_⟩:=hm.cells
 have hfew:=hm.few
 have HM:=ke hm
 obtain ⟨W1,hW1⟩:∃ W1,W1=w.alloc (.cells #[.int .i64 0,.int .i32 0,.string ⟨#[]⟩,.string ⟨#[]⟩,.string ⟨#[]⟩,.slice none 0 0,.string ⟨#[]⟩,.int .i64 0] 35):=⟨_,rfl⟩
 rw [← hW1] at HA0 HI2 HM c0 c2 c3
 have HI3:=ke (fun (w':World) (hb:Below W1.heap.size W1 w')=>ady hk (HA0.out.below hb).1.2)
 have HW1:=ke hW1
 clear hm hr hW1
 go_enter Tryz.func145,Tryz.ntmps145
 go_upto_region 1 with (fail)
 rw [← HW1.out]
 go_upto_region 3 with (go_at_call 49;refine HI2.out.mono ?_;rintro e w1 ⟨rfl,rfl⟩)
 go_cut [15] from 16 to 50 (fun v15 wx=>v15=.bool false∧AtQ K w s wx)
 case first =>
  by_cases hb:q.bd=0
  ·by_cases hl:q.k < K.L.length
   ·obtain ⟨x,hx⟩:∃ x,K.L[q.k]?=some x:=⟨K.L[q.k]'hl,List.getElem?_eq_getElem _⟩
    have hx3:=HNT.out hb x hx
    obtain ⟨gw,ow,hA,d0,_,_⟩:=HM.out.word hx
    rw [hA] at c0
    have hx4:((x.k:Int) == 3)=false:=by rw [beq_eq_false_iff_ne];omega
    have hl2:(q.k:Int) < K.L.length:=by omega
    have hl3:decide ((q.k:Int) < K.L.length)=true:=decide_eq_true hl2
    have hl4:decide (q.k < K.L.length)=true:=decide_eq_true hl
    have hz0:(0:Int)≤q.k:=by omega
    rw [hb] at c3
    clear hx hA hb hx3
    go_quiet ((go_at_call 49;exact Calls.quiet_of_same ((HI3.out _ (by first|exact Below.refl _ _|exact below_drewN (Below.refl _ _) _)).mono fun e w' hh=>⟨hh.1,hh.2.symm⟩)))
    (try go_wp2_with fail)
    go_meet
    case rel=>exact ⟨rfl,HA0.out.below (below_drewN (Below.refl _ _) _)⟩
   ·have hl2:¬ (q.k:Int) < K.L.length:=by omega
    have hl3:decide ((q.k:Int) < K.L.length)=false:=decide_eq_false hl2
    have hl4:decide (q.k < K.L.length)=false:=decide_eq_false hl
    rw [hb] at c3
    clear hb
    go_quiet ((go_at_call 49;exact Calls.quiet_of_same ((HI3.out _ (by first|exact Below.refl _ _|exact below_drewN (Below.refl _ _) _)).mono fun e w' hh=>⟨hh.1,hh.2.symm⟩)))
    (try go_wp2_with fail)
    go_meet
    case rel=>exact ⟨rfl,HA0.out.below (below_drewN (Below.refl _ _) _)⟩
  ·have hb1:(q.bd == (0:Int))=false:=by simpa using hb
   have hb2:decide (q.bd=(0:Int))=false:=decide_eq_false hb
   clear hb
   go_quiet ((go_at_call 49;exact Calls.quiet_of_same ((HI3.out _ (by first|exact Below.refl _ _|exact below_drewN (Below.refl _ _) _)).mono fun e w' hh=>⟨hh.1,hh.2.symm⟩)))
   (try go_wp2_with fail)
   go_meet
   case rel=>exact ⟨rfl,HA0.out.below (below_drewN (Below.refl _ _) _)⟩
 case rest =>
  obtain ⟨rfl,hA⟩:=hcut
  have HA:=ke hA
  clear hA c0 c2 c3 HI2 HI3 HNT HM HA0 HW1
  go_wp2_with fail
  refine (aam HA.out.1.2 aee (by decide) e0 (aas e0)).mono ?_
  rintro e wn ⟨rfl,hmn⟩
  have HAn:=ke (HA.out.move hmn)
  clear hmn HA
  have HA:=HAn
  clear HAn
  go_wp2_with fail
  refine (aam HA.out.1.2 adf (by decide) e1 (aas e1)).mono ?_
  rintro e wn ⟨rfl,hmn⟩
  have HAn:=ke (HA.out.move hmn)
  clear hmn HA
  have HA:=HAn
  clear HAn
  go_wp2_with fail
  refine (aam HA.out.1.2 ae3 (by decide) e2 (aas e2)).mono ?_
  rintro e wn ⟨rfl,hmn⟩
  have HAn:=ke (HA.out.move hmn)
  clear hmn HA
  have HA:=HAn
  clear HAn
  go_wp2_with fail
  refine (aam HA.out.1.2 afk (by decide) e3 (aas e3)).mono ?_
  rintro e wn ⟨rfl,hmn⟩
  have HAn:=ke (HA.out.move hmn)
  clear hmn HA
  have HA:=HAn
  clear HAn
  go_wp2_with fail
  refine (aam HA.out.1.2 aeq (by decide) e4 (aas e4)).mono ?_
  rintro e wn ⟨rfl,hmn⟩
  have HAn:=ke (HA.out.move hmn)
  clear hmn HA
  have HA:=HAn
  clear HAn
  go_wp2_with fail
  refine (aam HA.out.1.2 aj9 (by decide) e5 (afx e5)).mono ?_
  rintro e wn ⟨rfl,hmn⟩
  have HAn:=ke (HA.out.move hmn)
  clear hmn HA
  have HA:=HAn
  clear HAn
  go_wp2_with fail
  refine (HCL.out _ HA.out.1.2).mono ?_
  rintro e wn ⟨rfl,hmn⟩
  have HAn:=ke (HA.out.move hmn)
  clear hmn HA
  have HA:=HAn
  clear HAn
  have hwl:=HA.out.2.1.lt
  go_wp2_with fail
  refine (HAR.out _ HA.out.1.2).mono ?_
  rintro e w4 ⟨v2,ys,rfl,ho2,hby,hyl,hmn⟩
  obtain ⟨A2,cap2,rfl⟩:=ho2.form
  have HAn:=ke (HA.out.move hmn)
  have HO2:=ke ho2
  have HBY:=ke hby
  clear hmn HA ho2 hby
  have HA:=HAn
  clear HAn
  obtain ⟨r0,r1,r2,r3,r4,r5,r6,r7⟩:=HA.out.cells
  have g0:=HA.out.2.1.fro 0
  have g1:=HA.out.2.1.fro 1
  have g2:=HA.out.2.1.fro 2
  have g3:=HA.out.2.1.fro 3
  have g4:=HA.out.2.1.fro 4
  have g5:=HA.out.2.1.fro 5
  have g6:=HA.out.2.1.fro 6
  have g7:=HA.out.2.1.fro 7
  obtain ⟨z0,z1,z2,z3,z4,z5,z6,z7⟩:=(HA.out.2.1.to_8 (.int .i64 14) (.int .i32 0) (.string ⟨#[]⟩) (.string ⟨#[]⟩) (.string ty) (.slice A2 ys.length cap2) (.string ⟨#[]⟩) (.int .i64 0)).all_8
  go_wp2_with fail
  (try simp only [Exit.inBlock,Exit.then])
  refine bodyPost_ret (v:=.agg #[.int .i64 14,.int .i32 0,.string ⟨#[]⟩,.string ⟨#[]⟩,.string ty,.slice A2 ys.length cap2,.string ⟨#[]⟩,.int .i64 0]) (by simp [results,Tryz.results145,go_sem,z0,z1,z2,z3,z4,z5,z6,z7]) rfl ?_
  exact HA.out.args HO2.out hwl HBY.out 14 ⟨#[]⟩ ty ⟨Nat.zero_le _,htz⟩ rfl
theorem atom_fail (K:QC) (s:RS) (w:World) (h:Rq K s w) (hk:afp K s false false false false) (e0:s.sees 0 acy=false) (e1:s.sees 0 abq=false) (e2:s.sees 0 adv=false) (e3:s.sees 0 aeh=false) (e4:s.sees 0 abp=false) (e5:s.sees 0 sNew=false) (e6:s.sees 0 aah=false) (hR:RX .atom s=([mkE 0 0 E0 E0 E0 []],s.fail 3)):Calls Tryz.prog 145 #[.pointer (some ⟨K.c,0,none⟩)] w (ExQ K w (RX .atom s)):=by
 have HSG:Hid (∀ w',Rq K s w'→Calls Tryz.prog 22 #[.pointer (some ⟨K.c,0,none⟩),.string aah] w' fun e w''=>e=.returned (.bool false)∧w'=w''):=ke fun w' h'=>by
  have:=aa9 h' adl (by decide)
  rw [e6] at this;exact this
 rw [hR]
 clear hR
 have HA0:=ke (AtQ.start h)
 have HI2:=ke (adz hk HA0.out.1.2)
 obtain ⟨q,hm,hr⟩:=HA0.out.1.2
 have HNT:=ke (fun hb x hx=>ac0 hk hr hb (x:=x) hx)
 obtain ⟨c0,_,c2,c3,_,_⟩:=hm.cells
 have hfew:=hm.few
 have HM:=ke hm
 obtain ⟨W1,hW1⟩:∃ W1,W1=w.alloc (.cells #[.int .i64 0,.int .i32 0,.string ⟨#[]⟩,.string ⟨#[]⟩,.string ⟨#[]⟩,.slice none 0 0,.string ⟨#[]⟩,.int .i64 0] 35):=⟨_,rfl⟩
 rw [← hW1] at HA0 HI2 HM c0 c2 c3
 have HI3:=ke (fun (w':World) (hb:Below W1.heap.size W1 w')=>ady hk (HA0.out.below hb).1.2)
 have HW1:=ke hW1
 clear hm hr hW1
 go_enter Tryz.func145,Tryz.ntmps145
 go_upto_region 1 with (fail)
 rw [← HW1.out]
 go_upto_region 3 with (go_at_call 49;refine HI2.out.mono ?_;rintro e w1 ⟨rfl,rfl⟩)
 go_cut [15] from 16 to 50 (fun v15 wx=>v15=.bool false∧AtQ K w s wx)
 case first =>
  by_cases hb:q.bd=0
  ·by_cases hl:q.k < K.L.length
   ·obtain ⟨x,hx⟩:∃ x,K.L[q.k]?=some x:=⟨K.L[q.k]'hl,List.getElem?_eq_getElem _⟩
    have hx3:=HNT.out hb x hx
    obtain ⟨gw,ow,hA,d0,_,_⟩:=HM.out.word hx
    rw [hA] at c0
    have hx4:((x.k:Int) == 3)=false:=by rw [beq_eq_false_iff_ne];omega
    have hl2:(q.k:Int) < K.L.length:=by omega
    have hl3:decide ((q.k:Int) < K.L.length)=true:=decide_eq_true hl2
    have hl4:decide (q.k < K.L.length)=true:=decide_eq_true hl
    have hz0:(0:Int)≤q.k:=by omega
    rw [hb] at c3
    clear hx hA hb hx3
    go_quiet ((go_at_call 49;exact Calls.quiet_of_same ((HI3.out _ (by first|exact Below.refl _ _|exact below_drewN (Below.refl _ _) _)).mono fun e w' hh=>⟨hh.1,hh.2.symm⟩)))
    (try go_wp2_with fail)
    go_meet
    case rel=>exact ⟨rfl,HA0.out.below (below_drewN (Below.refl _ _) _)⟩
   ·have hl2:¬ (q.k:Int) < K.L.length:=by omega
    have hl3:decide ((q.k:Int) < K.L.length)=false:=decide_eq_false hl2
    have hl4:decide (q.k < K.L.length)=false:=decide_eq_false hl
    rw [hb] at c3
    clear hb
    go_quiet ((go_at_call 49;exact Calls.quiet_of_same ((HI3.out _ (by first|exact Below.refl _ _|exact below_drewN (Below.refl _ _) _)).mono fun e w' hh=>⟨hh.1,hh.2.symm⟩)))
    (try go_wp2_with fail)
    go_meet
    case rel=>exact ⟨rfl,HA0.out.below (below_drewN (Below.refl _ _) _)⟩
  ·have hb1:(q.bd == (0:Int))=false:=by simpa using hb
   have hb2:decide (q.bd=(0:Int))=false:=decide_eq_false hb
   clear hb
   go_quiet ((go_at_call 49;exact Calls.quiet_of_same ((HI3.out _ (by first|exact Below.refl _ _|exact below_drewN (Below.refl _ _) _)).mono fun e w' hh=>⟨hh.1,hh.2.symm⟩)))
   (try go_wp2_with fail)
   go_meet
   case rel=>exact ⟨rfl,HA0.out.below (below_drewN (Below.refl _ _) _)⟩
 case rest =>
  obtain ⟨rfl,hA⟩:=hcut
  have HA:=ke hA
  clear hA c0 c2 c3 HI2 HI3 HNT HM HA0 HW1
  go_wp2_with fail
  refine (aam HA.out.1.2 aee (by decide) e0 (aas e0)).mono ?_
  rintro e wn ⟨rfl,hmn⟩
  have HAn:=ke (HA.out.move hmn)
  clear hmn HA
  have HA:=HAn
  clear HAn
  go_wp2_with fail
  refine (aam HA.out.1.2 adf (by decide) e1 (aas e1)).mono ?_
  rintro e wn ⟨rfl,hmn⟩
  have HAn:=ke (HA.out.move hmn)
  clear hmn HA
  have HA:=HAn
  clear HAn
  go_wp2_with fail
  refine (aam HA.out.1.2 ae3 (by decide) e2 (aas e2)).mono ?_
  rintro e wn ⟨rfl,hmn⟩
  have HAn:=ke (HA.out.move hmn)
  clear hmn HA
  have HA:=HAn
  clear HAn
  go_wp2_with fail
  refine (aam HA.out.1.2 afk (by decide) e3 (aas e3)).mono ?_
  rintro e wn ⟨rfl,hmn⟩
  have HAn:=ke (HA.out.move hmn)
  clear hmn HA
  have HA:=HAn
  clear HAn
  go_wp2_with fail
  refine (aam HA.out.1.2 aeq (by decide) e4 (aas e4)).mono ?_
  rintro e wn ⟨rfl,hmn⟩
  have HAn:=ke (HA.out.move hmn)
  clear hmn HA
  have HA:=HAn
  clear HAn
  go_wp2_with fail
  refine (aam HA.out.1.2 aj9 (by decide) e5 (aas e5)).mono ?_
  rintro e wn ⟨rfl,hmn⟩
  have HAn:=ke (HA.out.move hmn)
  clear hmn HA
  have HA:=HAn
  clear HAn
  go_wp2_with fail
  refine (agv hk HA.out.1.2).mono ?_
  rintro e wn ⟨rfl,hmn⟩
  have HAn:=ke (HA.out.move hmn)
  clear hmn HA
  have HA:=HAn
  clear HAn
  go_wp2_with fail
  refine (ai4 hk HA.out.1.2).mono ?_
  rintro e wn ⟨rfl,hmn⟩
  have HAn:=ke (HA.out.move hmn)
  clear hmn HA
  have HA:=HAn
  clear HAn
  go_wp2_with fail
  refine (HSG.out _ HA.out.1.2).mono ?_
  rintro e wn2 ⟨rfl,rfl⟩
  go_wp2_with fail
  refine (aeb HA.out.1.2 (k:=3) (by decide)).mono ?_
  rintro e wn ⟨rfl,hmn⟩
  have HAn:=ke (HA.out.move hmn)
  clear hmn HA
  have HA:=HAn
  clear HAn
  obtain ⟨r0,r1,r2,r3,r4,r5,r6,r7⟩:=HA.out.cells
  have g0:=HA.out.2.1.fro 0
  have g1:=HA.out.2.1.fro 1
  have g2:=HA.out.2.1.fro 2
  have g3:=HA.out.2.1.fro 3
  have g4:=HA.out.2.1.fro 4
  have g5:=HA.out.2.1.fro 5
  have g6:=HA.out.2.1.fro 6
  have g7:=HA.out.2.1.fro 7
  obtain ⟨z0,z1,z2,z3,z4,z5,z6,z7⟩:=(HA.out.2.1.to_8 (.int .i64 0) (.int .i32 0) (.string ⟨#[]⟩) (.string ⟨#[]⟩) (.string ⟨#[]⟩) (.slice none 0 0) (.string ⟨#[]⟩) (.int .i64 0)).all_8
  go_wp2_with fail
  (try simp only [Exit.inBlock,Exit.then])
  refine bodyPost_ret (v:=.agg #[.int .i64 0,.int .i32 0,.string ⟨#[]⟩,.string ⟨#[]⟩,.string ⟨#[]⟩,.slice none 0 0,.string ⟨#[]⟩,.int .i64 0]) (by simp [results,Tryz.results145,go_sem,z0,z1,z2,z3,z4,z5,z6,z7]) rfl ?_
  exact HA.out.leaf 0 0 ⟨#[]⟩ ⟨#[]⟩ ⟨#[]⟩ ⟨Nat.zero_le _,Nat.zero_le _,Nat.zero_le _⟩ rfl
end
section
open Go.RowKit
theorem ExQ.drew {K:QC} {w w':World} {r:List Nd×RS} {e:Ending} (h:ExQ K w r e w'):ExQ K w r e w'.drew:=by
 obtain ⟨x,y,e1,hk,hb,ht⟩:=h
 exact ⟨x,y,e1,hk.below (Below.refl _ _).drew,hb,ht.trans (Tq.below ht.2 (Below.refl _ _).drew)⟩
theorem atom_text (K:QC) (s:RS) (w:World) (t:ByteArray) (h:Rq K s w) (hk:afp K s false true false false) (hX:∀ q,Rel K.L K.n q s→∃ x,K.L[q.k]?=some x∧q.bd=0∧(⟨x.t.toArray⟩:ByteArray)=t) (htz:t.size≤maxLen) (hR:RX .atom s=([mkE 3 0 t E0 E0 []],s.skip)):Calls Tryz.prog 145 #[.pointer (some ⟨K.c,0,none⟩)] w (ExQ K w (RX .atom s)):=by
 have HA0:=ke (AtQ.start h)
 have HI2:=ke (adz hk HA0.out.1.2)
 obtain ⟨q,hm,hr⟩:=HA0.out.1.2
 obtain ⟨x,hx,hb,hxt⟩:=hX q hr
 have hl:=(List.getElem?_eq_some_iff.1 hx).1
 have hfew:=hm.few
 have HRS:Hid (Rel K.L K.n { q with k:=q.k+1 } s.skip):=ke (hr.skip (by rw [← hr.bad];exact hb) hl)
 obtain ⟨W1,hW1⟩:∃ W1,W1=w.alloc (.cells #[.int .i64 0,.int .i32 0,.string ⟨#[]⟩,.string ⟨#[]⟩,.string ⟨#[]⟩,.slice none 0 0,.string ⟨#[]⟩,.int .i64 0] 35):=⟨_,rfl⟩
 rw [← hW1] at HA0 HI2 hm
 have HM:=ke hm
 have HI3:=ke (fun (w':World) (hb:Below W1.heap.size W1 w')=>ady hk (HA0.out.below hb).1.2)
 have HW1:=ke hW1
 have HX:=ke hx
 have HXT:=ke hxt
 have hl2:(q.k:Int) < K.L.length:=by omega
 have hq8:(q.k:Int)≤8000:=by omega
 rw [hR]
 clear hR hm hr hW1 hX hx hb hxt
 go_enter Tryz.func145,Tryz.ntmps145
 go_upto_region 1 with (fail)
 rw [← HW1.out]
 go_upto_region 3 with (go_at_call 49;refine HI2.out.mono ?_;rintro e w1 ⟨rfl,rfl⟩)
 go_quiet ((go_at_call 49;exact Calls.quiet_of_same ((HI3.out _ (by first|exact Below.refl _ _|exact below_drewN (Below.refl _ _) _)).mono fun e w' hh=>⟨hh.1,hh.2.symm⟩)))
 go_upto_region 4 with (fail)
 refine aak (F:=fun W=>AtQ K w s W∧Qm K q W) ⟨HA0.out.below (below_drewN (Below.refl _ _) _),HM.out.below (below_drewN (Below.refl _ _) _)⟩ ?_
 rintro W2 ⟨hA2,hm2⟩
 have c2:W2.cell? ⟨K.c,2,none⟩=some (.int .i64 q.k):=hm2.cells.2.2.1
 have f2:=hm2.2.2.2.fro 2
 have hst:=hm2.step hl
 simp only [Int.natCast_add,Int.natCast_one] at hst
 have hA3:=hA2.move (Tq.of hst HRS.out)
 have HST:=ke hst
 have HA3:=ke hA3
 clear hst hA3 hA2 hm2
 go_upto_region 5 with (fail)
 refine aak (F:=fun W=>AtQ K w s.skip W∧Qm K { q with k:=q.k+1 } W) ⟨HA3.out,HST.out.2⟩ ?_
 clear c2 f2 HST HA3 HA0 HM HI2 HI3 HW1
 rintro W3 ⟨hA,hm3⟩
 have HA:=ke hA
 obtain ⟨gw,ow,hKA,d0,d1,_⟩:=hm3.word HX.out
 obtain ⟨c0,_,c2,_,_,_⟩:=hm3.cells
 rw [hKA] at c0
 rw [HXT.out] at d1
 obtain ⟨k1,hk1⟩:∃ k1:Nat,q.k+1=k1:=⟨_,rfl⟩
 replace c2:W3.cell? ⟨K.c,2,none⟩=some (.int .i64 (k1:Int)):=by rw [c2,← hk1]
 have hwr:IntKind.i64.wrap ((k1:Int) - 1)=(q.k:Int):=by rw [IntKind.wrap_i64];omega
 have hz0:(0:Int)≤q.k:=by omega
 clear hA hm3 hKA hk1
 obtain ⟨r0,r1,r2,r3,r4,r5,r6,r7⟩:=HA.out.cells
 have g0:=HA.out.2.1.fro 0
 have g1:=HA.out.2.1.fro 1
 have g2:=HA.out.2.1.fro 2
 have g3:=HA.out.2.1.fro 3
 have g4:=HA.out.2.1.fro 4
 have g5:=HA.out.2.1.fro 5
 have g6:=HA.out.2.1.fro 6
 have g7:=HA.out.2.1.fro 7
 go_region_with (fail)
 all_goals
  obtain ⟨z0,z1,z2,z3,z4,z5,z6,z7⟩:=(HA.out.2.1.to_8 (.int .i64 3) (.int .i32 0) (.string t) (.string ⟨#[]⟩) (.string ⟨#[]⟩) (.slice none 0 0) (.string ⟨#[]⟩) (.int .i64 0)).all_8
  go_wp2_with fail
  (try simp only [Exit.inBlock,Exit.then])
  refine bodyPost_ret (v:=.agg #[.int .i64 3,.int .i32 0,.string t,.string ⟨#[]⟩,.string ⟨#[]⟩,.slice none 0 0,.string ⟨#[]⟩,.int .i64 0]) (by simp [results,Tryz.results145,go_sem,z0,z1,z2,z3,z4,z5,z6,z7]) rfl ?_
  exact (HA.out.leaf 3 0 t ⟨#[]⟩ ⟨#[]⟩ ⟨htz,Nat.zero_le _,Nat.zero_le _⟩ rfl).drew
end
section
open Go.RowKit
theorem need_good {s:RS} {p:ByteArray} (h:(s.need p).wc=0):s.wc=0:=by
 by_cases h0:s.wc=0
 ·exact h0
 ·exfalso
  unfold RS.need at h
  split at h
  ·exact h0 h
  ·exact abt s (by decide) h
theorem need_opQ {s:RS} {p:ByteArray} (h:(s.need p).wc=0):(s.need p).op=s.op:=by
 unfold RS.need at h ⊢
 split
 ·rfl
 ·rename_i hn
  rw [if_neg hn] at h
  exact absurd h (abt s (by decide))
theorem atom_many (K:QC) (s:RS) (w:World) (h:Rq K s w) (hk:afp K s false false false false) (e0:s.sees 0 acy=false) (e1:s.sees 0 abq=false) (e2:s.sees 0 adv=false) (e3:s.sees 0 aeh=false) (e4:s.sees 0 abp=false) (e5:s.sees 0 sNew=false) (e6:s.sees 0 aah=true) (h41:s.op=41) (hR:RX .atom s=([hdE (RX .expr (s.enter aah)).1],(RX .expr (s.enter aah)).2.leave aa6)):Calls Tryz.prog 145 #[.pointer (some ⟨K.c,0,none⟩)] w (ExQ K w (RX .atom s)):=by
 have HSG:Hid (∀ w',Rq K s w'→Calls Tryz.prog 22 #[.pointer (some ⟨K.c,0,none⟩),.string aah] w' fun e w''=>e=.returned (.bool true)∧w'=w''):=ke fun w' h'=>by
  have:=aa9 h' adl (by decide)
  rw [e6] at this;exact this
 obtain ⟨RA,hRA⟩:∃ R,RX .atom s=R:=⟨_,rfl⟩
 have he:s.enter aah=(s.fail 4).inc:=by
  rcases ab5 s aah with ⟨a,_⟩|⟨_,_,b⟩|⟨_,b,_⟩
  ·rw [e6] at a;cases a
  ·exact b
  ·exact absurd h41 b
 have hfl:FlS (s.fail 4) RA.2:=by
  rw [← hRA,hR]
  show FlS (s.fail 4) ((RX .expr (s.enter aah)).2.leave aa6)
  rw [he]
  have f0:=ahl s (c:=4) (by decide)
  have f1:=f0.inc
  have f2:=RX_bad .expr (f1.fb f0)
  have f3:=f1.trans f2
  have f4:=f3.trans (Fb.need (f3.fb f0) aa6)
  exact f4.trans (Fb.dec (f4.fb f0))
 have hbad:RA.2.wc≠0:=by rw [hfl.1];exact abt s (by decide)
 rw [hRA]
 have HFL:=ke hfl
 have HBAD:=ke hbad
 clear hR hRA he hfl hbad
 have HA0:=ke (AtQ.start h)
 have HI2:=ke (adz hk HA0.out.1.2)
 obtain ⟨q,hm,hr⟩:=HA0.out.1.2
 have HNT:=ke (fun hb x hx=>ac0 hk hr hb (x:=x) hx)
 obtain ⟨c0,_,c2,c3,_,_⟩:=hm.cells
 have hfew:=hm.few
 have HM:=ke hm
 obtain ⟨W1,hW1⟩:∃ W1,W1=w.alloc (.cells #[.int .i64 0,.int .i32 0,.string ⟨#[]⟩,.string ⟨#[]⟩,.string ⟨#[]⟩,.slice none 0 0,.string ⟨#[]⟩,.int .i64 0] 35):=⟨_,rfl⟩
 rw [← hW1] at HA0 HI2 HM c0 c2 c3
 have HI3:=ke (fun (w':World) (hb:Below W1.heap.size W1 w')=>ady hk (HA0.out.below hb).1.2)
 have HW1:=ke hW1
 clear hm hr hW1
 go_enter Tryz.func145,Tryz.ntmps145
 go_upto_region 1 with (fail)
 rw [← HW1.out]
 go_upto_region 3 with (go_at_call 49;refine HI2.out.mono ?_;rintro e w1 ⟨rfl,rfl⟩)
 go_cut [15] from 16 to 50 (fun v15 wx=>v15=.bool false∧AtQ K w s wx)
 case first =>
  by_cases hb:q.bd=0
  ·by_cases hl:q.k < K.L.length
   ·obtain ⟨x,hx⟩:∃ x,K.L[q.k]?=some x:=⟨K.L[q.k]'hl,List.getElem?_eq_getElem _⟩
    have hx3:=HNT.out hb x hx
    obtain ⟨gw,ow,hA,d0,_,_⟩:=HM.out.word hx
    rw [hA] at c0
    have hx4:((x.k:Int) == 3)=false:=by rw [beq_eq_false_iff_ne];omega
    have hl2:(q.k:Int) < K.L.length:=by omega
    have hl3:decide ((q.k:Int) < K.L.length)=true:=decide_eq_true hl2
    have hl4:decide (q.k < K.L.length)=true:=decide_eq_true hl
    have hz0:(0:Int)≤q.k:=by omega
    rw [hb] at c3
    clear hx hA hb hx3
    go_quiet ((go_at_call 49;exact Calls.quiet_of_same ((HI3.out _ (by first|exact Below.refl _ _|exact below_drewN (Below.refl _ _) _)).mono fun e w' hh=>⟨hh.1,hh.2.symm⟩)))
    (try go_wp2_with fail)
    go_meet
    case rel=>exact ⟨rfl,HA0.out.below (below_drewN (Below.refl _ _) _)⟩
   ·have hl2:¬ (q.k:Int) < K.L.length:=by omega
    have hl3:decide ((q.k:Int) < K.L.length)=false:=decide_eq_false hl2
    have hl4:decide (q.k < K.L.length)=false:=decide_eq_false hl
    rw [hb] at c3
    clear hb
    go_quiet ((go_at_call 49;exact Calls.quiet_of_same ((HI3.out _ (by first|exact Below.refl _ _|exact below_drewN (Below.refl _ _) _)).mono fun e w' hh=>⟨hh.1,hh.2.symm⟩)))
    (try go_wp2_with fail)
    go_meet
    case rel=>exact ⟨rfl,HA0.out.below (below_drewN (Below.refl _ _) _)⟩
  ·have hb1:(q.bd == (0:Int))=false:=by simpa using hb
   have hb2:decide (q.bd=(0:Int))=false:=decide_eq_false hb
   clear hb
   go_quiet ((go_at_call 49;exact Calls.quiet_of_same ((HI3.out _ (by first|exact Below.refl _ _|exact below_drewN (Below.refl _ _) _)).mono fun e w' hh=>⟨hh.1,hh.2.symm⟩)))
   (try go_wp2_with fail)
   go_meet
   case rel=>exact ⟨rfl,HA0.out.below (below_drewN (Below.refl _ _) _)⟩
 case rest =>
  obtain ⟨rfl,hA⟩:=hcut
  have HA:=ke hA
  clear hA c0 c2 c3 HI2 HI3 HNT HM HA0 HW1
  go_wp2_with fail
  refine (aam HA.out.1.2 aee (by decide) e0 (aas e0)).mono ?_
  rintro e wn ⟨rfl,hmn⟩
  have HAn:=ke (HA.out.move hmn)
  clear hmn HA
  have HA:=HAn
  clear HAn
  go_wp2_with fail
  refine (aam HA.out.1.2 adf (by decide) e1 (aas e1)).mono ?_
  rintro e wn ⟨rfl,hmn⟩
  have HAn:=ke (HA.out.move hmn)
  clear hmn HA
  have HA:=HAn
  clear HAn
  go_wp2_with fail
  refine (aam HA.out.1.2 ae3 (by decide) e2 (aas e2)).mono ?_
  rintro e wn ⟨rfl,hmn⟩
  have HAn:=ke (HA.out.move hmn)
  clear hmn HA
  have HA:=HAn
  clear HAn
  go_wp2_with fail
  refine (aam HA.out.1.2 afk (by decide) e3 (aas e3)).mono ?_
  rintro e wn ⟨rfl,hmn⟩
  have HAn:=ke (HA.out.move hmn)
  clear hmn HA
  have HA:=HAn
  clear HAn
  go_wp2_with fail
  refine (aam HA.out.1.2 aeq (by decide) e4 (aas e4)).mono ?_
  rintro e wn ⟨rfl,hmn⟩
  have HAn:=ke (HA.out.move hmn)
  clear hmn HA
  have HA:=HAn
  clear HAn
  go_wp2_with fail
  refine (aam HA.out.1.2 aj9 (by decide) e5 (aas e5)).mono ?_
  rintro e wn ⟨rfl,hmn⟩
  have HAn:=ke (HA.out.move hmn)
  clear hmn HA
  have HA:=HAn
  clear HAn
  go_wp2_with fail
  refine (agv hk HA.out.1.2).mono ?_
  rintro e wn ⟨rfl,hmn⟩
  have HAn:=ke (HA.out.move hmn)
  clear hmn HA
  have HA:=HAn
  clear HAn
  go_wp2_with fail
  refine (ai4 hk HA.out.1.2).mono ?_
  rintro e wn ⟨rfl,hmn⟩
  have HAn:=ke (HA.out.move hmn)
  clear hmn HA
  have HA:=HAn
  clear HAn
  go_wp2_with fail
  refine (HSG.out _ HA.out.1.2).mono ?_
  rintro e wn2 ⟨rfl,rfl⟩
  obtain ⟨q4,hm4,hr4⟩:=HA.out.1.2
  have h0:=(aea hm4 hr4 adl e6).1
  have hdp:40 < q4.dp:=by rw [(hr4.2.2.1 h0).2.2.1,h41];decide
  have HO:=ke (open_no hm4 hdp)
  have HRF:Hid (Rel K.L K.n (q4.fail K.L K.n 4) RA.2):=ke ((hr4.fail (by decide)).fl (ahl s (by decide)) HFL.out)
  clear hm4 hr4 h0 hdp
  go_wp2_with fail
  refine HO.out.mono ?_
  rintro e w5 ⟨rfl,ht⟩
  have HAn:=ke (HA.out.move (Tq.of ht HRF.out))
  clear ht HA HO
  have HA:=HAn
  clear HAn
  obtain ⟨r0,r1,r2,r3,r4,r5,r6,r7⟩:=HA.out.cells
  have g0:=HA.out.2.1.fro 0
  have g1:=HA.out.2.1.fro 1
  have g2:=HA.out.2.1.fro 2
  have g3:=HA.out.2.1.fro 3
  have g4:=HA.out.2.1.fro 4
  have g5:=HA.out.2.1.fro 5
  have g6:=HA.out.2.1.fro 6
  have g7:=HA.out.2.1.fro 7
  obtain ⟨z0,z1,z2,z3,z4,z5,z6,z7⟩:=(HA.out.2.1.to_8 (.int .i64 0) (.int .i32 0) (.string ⟨#[]⟩) (.string ⟨#[]⟩) (.string ⟨#[]⟩) (.slice none 0 0) (.string ⟨#[]⟩) (.int .i64 0)).all_8
  go_wp2_with fail
  (try simp only [Exit.inBlock,Exit.then])
  refine bodyPost_ret (v:=.agg #[.int .i64 0,.int .i32 0,.string ⟨#[]⟩,.string ⟨#[]⟩,.string ⟨#[]⟩,.slice none 0 0,.string ⟨#[]⟩,.int .i64 0]) (by simp [results,Tryz.results145,go_sem,z0,z1,z2,z3,z4,z5,z6,z7]) rfl ?_
  obtain ⟨x,y,e,hk,_,ht⟩:=HA.out.leaf 0 0 ⟨#[]⟩ ⟨#[]⟩ ⟨#[]⟩ ⟨Nat.zero_le _,Nat.zero_le _,Nat.zero_le _⟩ rfl
  exact ⟨x,y,e,hk,fun e=>absurd e HBAD.out,ht⟩
theorem atom_open (K:QC) (s:RS) (w:World) (N:Nat) (IHx:∀ m,m < N→SpecEx m) (hN:20 * s.len+3≤N) (h:Rq K s w) (hk:afp K s false false false false) (e0:s.sees 0 acy=false) (e1:s.sees 0 abq=false) (e2:s.sees 0 adv=false) (e3:s.sees 0 aeh=false) (e4:s.sees 0 abp=false) (e5:s.sees 0 sNew=false) (e6:s.sees 0 aah=true) (h41:s.op≠41) (hR:RX .atom s=([hdE (RX .expr (s.enter aah)).1],(RX .expr (s.enter aah)).2.leave aa6)):Calls Tryz.prog 145 #[.pointer (some ⟨K.c,0,none⟩)] w (ExQ K w (RX .atom s)):=by
 have HSG:Hid (∀ w',Rq K s w'→Calls Tryz.prog 22 #[.pointer (some ⟨K.c,0,none⟩),.string aah] w' fun e w''=>e=.returned (.bool true)∧w'=w''):=ke fun w' h'=>by
  have:=aa9 h' adl (by decide)
  rw [e6] at this;exact this
 have hsk:Rq K s w→True:=fun _=>trivial
 obtain ⟨u,hu⟩:∃ u,s.skip.inc=u:=⟨_,rfl⟩
 have he:s.enter aah=u:=by
  rcases ab5 s aah with ⟨a,_⟩|⟨_,b,_⟩|⟨_,_,b⟩
  ·rw [e6] at a;cases a
  ·exact absurd b h41
  ·rw [← hu];exact b
 have hul:u.len+1≤s.len:=by
  have h1:=aa4 s aah
  have h2:=aa5 e6
  rw [he] at h1;omega
 obtain ⟨R,hRe⟩:∃ R,RX .expr u=R:=⟨_,rfl⟩
 rw [he,hRe] at hR
 have HX:Hid (∀ w',Rq K u w'→Calls Tryz.prog 35 #[.pointer (some ⟨K.c,0,none⟩)] w' (ExQ K w' R)):=ke fun w' h'=>by
  have:=IHx (20 * u.len+13) (by omega) K u w' h' (Nat.le_refl _)
  rw [hRe] at this;exact this
 have huo:0≤s.op→s.op≤41→1≤u.op:=fun a b=>by rw [← hu];show 1≤wrap64 (s.op+1);simp only [wrap64];omega
 have hop:(R.2.need aa6).wc=0→1≤(R.2.need aa6).op:=fun e=>by
  obtain ⟨q,_,hr⟩:=h
  have e1:R.2.wc=0:=need_good e
  have hin:OpB s:=hr.opb
  have hBu:OpB u:=by rw [← he];exact hin.enter aah
  have h1:=RX_op .expr u hBu
  rw [hRe] at h1
  have h2:=h1 e1
  have h0:s.wc=0:=by have:=h2.1;rw [← hu] at this;exact this
  have h3:=hin h0
  have h4:=huo h3.1 h3.2
  have h5:=need_opQ e
  rw [h5,h2.2];exact h4
 have HOP:=ke hop
 clear huo
 have HU:=ke hu
 rw [hR]
 clear hR he hRe IHx hN hop hu
 have HA0:=ke (AtQ.start h)
 have HI2:=ke (adz hk HA0.out.1.2)
 obtain ⟨q,hm,hr⟩:=HA0.out.1.2
 have HNT:=ke (fun hb x hx=>ac0 hk hr hb (x:=x) hx)
 obtain ⟨c0,_,c2,c3,_,_⟩:=hm.cells
 have hfew:=hm.few
 have HM:=ke hm
 obtain ⟨W1,hW1⟩:∃ W1,W1=w.alloc (.cells #[.int .i64 0,.int .i32 0,.string ⟨#[]⟩,.string ⟨#[]⟩,.string ⟨#[]⟩,.slice none 0 0,.string ⟨#[]⟩,.int .i64 0] 35):=⟨_,rfl⟩
 rw [← hW1] at HA0 HI2 HM c0 c2 c3
 have HI3:=ke (fun (w':World) (hb:Below W1.heap.size W1 w')=>ady hk (HA0.out.below hb).1.2)
 have HW1:=ke hW1
 clear hm hr hW1
 go_enter Tryz.func145,Tryz.ntmps145
 go_upto_region 1 with (fail)
 rw [← HW1.out]
 go_upto_region 3 with (go_at_call 49;refine HI2.out.mono ?_;rintro e w1 ⟨rfl,rfl⟩)
 go_cut [15] from 16 to 50 (fun v15 wx=>v15=.bool false∧AtQ K w s wx)
 case first =>
  by_cases hb:q.bd=0
  ·by_cases hl:q.k < K.L.length
   ·obtain ⟨x,hx⟩:∃ x,K.L[q.k]?=some x:=⟨K.L[q.k]'hl,List.getElem?_eq_getElem _⟩
    have hx3:=HNT.out hb x hx
    obtain ⟨gw,ow,hA,d0,_,_⟩:=HM.out.word hx
    rw [hA] at c0
    have hx4:((x.k:Int) == 3)=false:=by rw [beq_eq_false_iff_ne];omega
    have hl2:(q.k:Int) < K.L.length:=by omega
    have hl3:decide ((q.k:Int) < K.L.length)=true:=decide_eq_true hl2
    have hl4:decide (q.k < K.L.length)=true:=decide_eq_true hl
    have hz0:(0:Int)≤q.k:=by omega
    rw [hb] at c3
    clear hx hA hb hx3
    go_quiet ((go_at_call 49;exact Calls.quiet_of_same ((HI3.out _ (by first|exact Below.refl _ _|exact below_drewN (Below.refl _ _) _)).mono fun e w' hh=>⟨hh.1,hh.2.symm⟩)))
    (try go_wp2_with fail)
    go_meet
    case rel=>exact ⟨rfl,HA0.out.below (below_drewN (Below.refl _ _) _)⟩
   ·have hl2:¬ (q.k:Int) < K.L.length:=by omega
    have hl3:decide ((q.k:Int) < K.L.length)=false:=decide_eq_false hl2
    have hl4:decide (q.k < K.L.length)=false:=decide_eq_false hl
    rw [hb] at c3
    clear hb
    go_quiet ((go_at_call 49;exact Calls.quiet_of_same ((HI3.out _ (by first|exact Below.refl _ _|exact below_drewN (Below.refl _ _) _)).mono fun e w' hh=>⟨hh.1,hh.2.symm⟩)))
    (try go_wp2_with fail)
    go_meet
    case rel=>exact ⟨rfl,HA0.out.below (below_drewN (Below.refl _ _) _)⟩
  ·have hb1:(q.bd == (0:Int))=false:=by simpa using hb
   have hb2:decide (q.bd=(0:Int))=false:=decide_eq_false hb
   clear hb
   go_quiet ((go_at_call 49;exact Calls.quiet_of_same ((HI3.out _ (by first|exact Below.refl _ _|exact below_drewN (Below.refl _ _) _)).mono fun e w' hh=>⟨hh.1,hh.2.symm⟩)))
   (try go_wp2_with fail)
   go_meet
   case rel=>exact ⟨rfl,HA0.out.below (below_drewN (Below.refl _ _) _)⟩
 case rest =>
  obtain ⟨rfl,hA⟩:=hcut
  have HA:=ke hA
  clear hA c0 c2 c3 HI2 HI3 HNT HM HA0 HW1
  go_wp2_with fail
  refine (aam HA.out.1.2 aee (by decide) e0 (aas e0)).mono ?_
  rintro e wn ⟨rfl,hmn⟩
  have HAn:=ke (HA.out.move hmn)
  clear hmn HA
  have HA:=HAn
  clear HAn
  go_wp2_with fail
  refine (aam HA.out.1.2 adf (by decide) e1 (aas e1)).mono ?_
  rintro e wn ⟨rfl,hmn⟩
  have HAn:=ke (HA.out.move hmn)
  clear hmn HA
  have HA:=HAn
  clear HAn
  go_wp2_with fail
  refine (aam HA.out.1.2 ae3 (by decide) e2 (aas e2)).mono ?_
  rintro e wn ⟨rfl,hmn⟩
  have HAn:=ke (HA.out.move hmn)
  clear hmn HA
  have HA:=HAn
  clear HAn
  go_wp2_with fail
  refine (aam HA.out.1.2 afk (by decide) e3 (aas e3)).mono ?_
  rintro e wn ⟨rfl,hmn⟩
  have HAn:=ke (HA.out.move hmn)
  clear hmn HA
  have HA:=HAn
  clear HAn
  go_wp2_with fail
  refine (aam HA.out.1.2 aeq (by decide) e4 (aas e4)).mono ?_
  rintro e wn ⟨rfl,hmn⟩
  have HAn:=ke (HA.out.move hmn)
  clear hmn HA
  have HA:=HAn
  clear HAn
  go_wp2_with fail
  refine (aam HA.out.1.2 aj9 (by decide) e5 (aas e5)).mono ?_
  rintro e wn ⟨rfl,hmn⟩
  have HAn:=ke (HA.out.move hmn)
  clear hmn HA
  have HA:=HAn
  clear HAn
  go_wp2_with fail
  refine (agv hk HA.out.1.2).mono ?_
  rintro e wn ⟨rfl,hmn⟩
  have HAn:=ke (HA.out.move hmn)
  clear hmn HA
  have HA:=HAn
  clear HAn
  go_wp2_with fail
  refine (ai4 hk HA.out.1.2).mono ?_
  rintro e wn ⟨rfl,hmn⟩
  have HAn:=ke (HA.out.move hmn)
  clear hmn HA
  have HA:=HAn
  clear HAn
  go_wp2_with fail
  refine (HSG.out _ HA.out.1.2).mono ?_
  rintro e wn2 ⟨rfl,rfl⟩
  obtain ⟨q4,hm4,hr4⟩:=HA.out.1.2
  obtain ⟨h0,hkl⟩:=aea hm4 hr4 adl e6
  obtain ⟨_,_,b3,b4,b5⟩:=hr4.2.2.1 h0
  have HO:=ke (open_yes hm4 (by omega) (by omega))
  have hin:=hr4.into h0 hkl (by omega)
  rw [HU.out] at hin
  have HIN:=ke hin
  have hqk:(q4.k:Int)≤8000:=by have:=hm4.few;omega
  clear hr4 hm4 hin b3 b4 b5
  go_upto_region 38 with (go_at_call 87;refine HO.out.mono ?_;rintro e w5 ⟨rfl,ht⟩;have d2:w5.cell? ⟨K.c,2,none⟩=some (.int .i64 q4.k):=ht.2.cells.2.2.1;have f2:=ht.2.2.2.2.fro 2;have hst:=ht.trans (ht.2.step hkl);simp only [Int.natCast_add,Int.natCast_one] at hst;have HAn:=ke (HA.out.move (Tq.of hst HIN.out));clear ht hst)
  go_upto_region 39 with (fail)
  refine aak (F:=fun W=>AtQ K w u W) HAn.out ?_
  rintro W6 hA6
  have HA6:=ke hA6
  clear hA6 HAn HA d2 f2 HO
  have hlt6:=HA6.out.2.1.lt
  go_upto_region 40 with (go_at_call 35;refine (HX.out _ HA6.out.1.2).mono ?_;rintro e w7 ⟨xz,y,rfl,hk,hbe,hm7⟩;have HA7:=ke (HA6.out.move hm7);have HZ:=ke (hk.mono (show w.heap.size+1≤_ by omega));have HBE:=ke hbe;obtain ⟨zk,zn,ztx,znm,zty,zA,zc,zl,rfl,_,_,_⟩:=hk;clear hm7 hbe;simp only [aab])
  have hb7:Below w7.heap.size w7 (w7.alloc (.cells #[.int .i64 zk,.int .i32 zn,.string ztx,.string znm,.string zty,.slice zA zl.length zc,.string ⟨#[]⟩,.int .i64 0] 35)):=(Below.refl _ _).alloc (Nat.le_refl _) _
  have hlt7:=HA7.out.2.1.lt
  refine aak (F:=fun W=>AtQ K w R.2 W∧Bx W w7.heap.size #[.int .i64 zk,.int .i32 zn,.string ztx,.string znm,.string zty,.slice zA zl.length zc,.string ⟨#[]⟩,.int .i64 0] 35∧ExK (w.heap.size+1) none W xz (Nd.ex zk zn ztx znm zty (.slice zA zl.length zc) zl ⟨#[]⟩ 0)) ⟨HA7.out.below hb7,Bx.new _ _ _,HZ.out.below hb7⟩ ?_
  rintro W8 ⟨hA8,hY8,hZ8⟩
  have hcK:=hA8.2.2.1
  have HA8:=ke hA8
  have HY8:=ke hY8
  have HZ8:=ke hZ8
  clear hA8 hY8 hZ8 hb7 HA7 HZ
  go_wp2_with fail
  refine (aet HA8.out.1.2 aa6 fx_shut (by decide)).mono ?_
  rintro e w9 ⟨rfl,hmn⟩
  have HA9:=ke (HA8.out.move hmn)
  have HY9:=ke (HY8.out.grown hmn.1 (by omega))
  have HZ9:=ke (HZ8.out.grown hmn.1 (.inl (by omega)))
  clear hmn HA8 HY8 HZ8
  obtain ⟨q9,hm9,hr9⟩:=HA9.out.1.2
  have d5:w9.cell? ⟨K.c,5,none⟩=some (.int .i64 q9.dp):=hm9.cells.2.2.2.2.2
  have f5:=hm9.2.2.2.fro 5
  have HE9:=ke (HA9.out.1.out hm9 hr9 HOP.out)
  have HG9:=ke (hm9.deep (wrap64 (q9.dp - 1))).1
  clear hm9 hr9
  go_upto_region 42 with (fail)
  refine aak (F:=fun W=>AtQ K w (R.2.leave aa6) W∧Bx W w7.heap.size #[.int .i64 zk,.int .i32 zn,.string ztx,.string znm,.string zty,.slice zA zl.length zc,.string ⟨#[]⟩,.int .i64 0] 35∧ExK (w.heap.size+1) none W xz (Nd.ex zk zn ztx znm zty (.slice zA zl.length zc) zl ⟨#[]⟩ 0)) ⟨⟨HE9.out,HA9.out.2.1.grown HG9.out (by omega),HA9.out.2.2⟩,HY9.out.grown HG9.out (by omega),HZ9.out.grown HG9.out (.inl (by omega))⟩ ?_
  rintro W10 ⟨hA,hY,hZ⟩
  have HA:=ke hA
  have HZ:=ke hZ
  obtain ⟨b0,b1,b2,b3,b4,b5,b6,b7⟩:=hY.all_8
  clear hA hY hZ d5 f5 HE9 HG9 HA9 HY9 HZ9
  obtain ⟨r0,r1,r2,r3,r4,r5,r6,r7⟩:=HA.out.cells
  have g0:=HA.out.2.1.fro 0
  have g1:=HA.out.2.1.fro 1
  have g2:=HA.out.2.1.fro 2
  have g3:=HA.out.2.1.fro 3
  have g4:=HA.out.2.1.fro 4
  have g5:=HA.out.2.1.fro 5
  have g6:=HA.out.2.1.fro 6
  have g7:=HA.out.2.1.fro 7
  obtain ⟨z0,z1,z2,z3,z4,z5,z6,z7⟩:=(HA.out.2.1.to_8 (.int .i64 zk) (.int .i32 zn) (.string ztx) (.string znm) (.string zty) (.slice zA zl.length zc) (.string ⟨#[]⟩) (.int .i64 0)).all_8
  have HG:=ke (aaw W10 w.heap.size (.int .i64 zk) (.int .i32 zn) (.string ztx) (.string znm) (.string zty) (.slice zA zl.length zc) (.string ⟨#[]⟩) (.int .i64 0))
  go_wp2_with fail
  (try simp only [Exit.inBlock,Exit.then])
  refine bodyPost_ret (v:=.agg #[.int .i64 zk,.int .i32 zn,.string ztx,.string znm,.string zty,.slice zA zl.length zc,.string ⟨#[]⟩,.int .i64 0]) (by simp [results,Tryz.results145,go_sem,z0,z1,z2,z3,z4,z5,z6,z7]) rfl ?_
  refine ⟨xz,_,rfl,(HZ.out.grown HG.out (.inl (by omega))).mono (by omega),fun e=>HBE.out ?_,HA.out.1.row HG.out (fun k e=>by injection e with e;omega) HA.out.2.2.1 HA.out.2.2.2⟩
  exact need_good e
end
section
open Go.RowKit
def quP:Option Pl→Option ByteArray
 | some (.qu t,_)=>some t
 | _=>none
theorem letP_noqu (t u:ByteArray):letP t≠.qu u:=by
 unfold letP
 repeat' split
 all_goals (intro e;cases e)
theorem quP_word {x:Wd}:quP (some (afr x))=if x.k=3 then some ⟨x.t.toArray⟩ else none:=by
 unfold afr afo
 by_cases k1:x.k=1
 ·rw [if_pos k1,if_neg (by omega)]
  cases hl:letP ⟨x.t.toArray⟩ with
  | qu t=>exact absurd hl (letP_noqu _ _)
  | fx t=>rfl
  | nm t=>rfl
  | cl t=>rfl
  | nu t=>rfl
 ·rw [if_neg k1]
  by_cases k2:x.k=2
  ·rw [if_pos k2,if_neg (by omega)];rfl
  ·rw [if_neg k2]
   by_cases k3:x.k=3
   ·rw [if_pos k3,if_pos k3];rfl
   ·rw [if_neg k3,if_neg k3];rfl
theorem Rel.qu {L:List Wd} {n:Int} {q:QS} {s:RS} (h:Rel L n q s):isQ L q 0 3 ⟨#[]⟩=(quP s.ws[0]?).isSome:=by
 unfold isQ
 by_cases h0:s.wc=0
 ·rw [h.word h0 0,(h.2.2.1 h0).1]
  cases hx:L[q.k+0]? with
  | none=>simp [quP]
  | some x =>
   rw [Option.map_some,quP_word]
   by_cases k3:x.k=3
   ·simp [k3]
   ·simp [k3]
 ·rw [h.noword h0 0]
  have hb:q.bd≠0:=by rw [h.bad];exact h0
  simp [hb,quP]
theorem kind_of {K:QC} {s:RS} {w:World} (h:Rq K s w):afp K s (nuP s.ws[0]?).isSome (quP s.ws[0]?).isSome (nmP s.ws[0]?).isSome (clP s.ws[0]?).isSome:=by
 intro q hr
 refine ⟨?_,hr.qu,?_,?_⟩
 ·rw [num_q,hr.nu h.well]
 ·rw [hr.nm h.well]
 ·rw [hr.cl h.well]
theorem qu_text {K:QC} {s:RS} {t:ByteArray} {a:Int} (hw:s.ws[0]?=some (.qu t,a)):∀ q,Rel K.L K.n q s→∃ x,K.L[q.k]?=some x∧q.bd=0∧(⟨x.t.toArray⟩:ByteArray)=t:=by
 intro q hr
 have h0:s.wc=0:=by
  by_cases h0:s.wc=0
  ·exact h0
  ·rw [hr.noword h0 0] at hw;cases hw
 have h1:=hr.word h0 0
 rw [hw] at h1
 cases hx:K.L[q.k]? with
 | none=>rw [Nat.add_zero,hx] at h1;cases h1
 | some x =>
  refine ⟨x,rfl,(hr.2.2.1 h0).1,?_⟩
  rw [Nat.add_zero,hx,Option.map_some] at h1
  have h2:=quP_word (x:=x)
  rw [← h1] at h2
  by_cases k3:x.k=3
  ·rw [if_pos k3] at h2
   exact (Option.some.inj h2).symm
  ·rw [if_neg k3] at h2;cases h2
theorem atom_fixQ (K:QC) (s:RS) (w:World) (N:Nat) (IHx:∀ m,m < N→SpecEx m) (IHa:∀ m,m < N→agl m) (hN:20 * s.len+3≤N) (h:Rq K s w) (hk:afp K s false false false false) (hat:RX .atom s=RX .fixed s):Calls Tryz.prog 145 #[.pointer (some ⟨K.c,0,none⟩)] w (ExQ K w (RX .atom s)):=by
 have hat:=hat.trans (RX_fixed s)
 by_cases e0:s.sees 0 acy=true
 ·exact atom_true K s w h hk e0 (by rw [hat,if_pos e0])
 replace e0:s.sees 0 acy=false:=by simpa using e0
 by_cases e1:s.sees 0 abq=true
 ·exact atom_false K s w h hk e0 e1 (by rw [hat,if_neg (by rw [e0];decide),if_pos e1])
 replace e1:s.sees 0 abq=false:=by simpa using e1
 by_cases e2:s.sees 0 adv=true
 ·exact atom_null K s w h hk e0 e1 e2 (by rw [hat,if_neg (by rw [e0];decide),if_neg (by rw [e1];decide),if_pos e2])
 replace e2:s.sees 0 adv=false:=by simpa using e2
 by_cases e3:s.sees 0 aeh=true
 ·exact atom_this K s w h hk e0 e1 e2 e3 (by rw [hat,if_neg (by rw [e0];decide),if_neg (by rw [e1];decide),if_neg (by rw [e2];decide),if_pos e3])
 replace e3:s.sees 0 aeh=false:=by simpa using e3
 by_cases e4:s.sees 0 abp=true
 ·have hR:RX .atom s=RX (.used 8 12 E0 []) (s.skip.need af5):=by rw [hat,if_neg (by rw [e0];decide),if_neg (by rw [e1];decide),if_neg (by rw [e2];decide),if_neg (by rw [e3];decide),if_pos e4]
  cases ho:(s.skip.need af5).name.sees 0 aah with
  | true=>exact atom_super_args K s w N IHa hN h hk e0 e1 e2 e3 e4 hR ho
  | false=>exact atom_super_bare K s w N IHa hN h hk e0 e1 e2 e3 e4 hR ho
 replace e4:s.sees 0 abp=false:=by simpa using e4
 by_cases e5:s.sees 0 sNew=true
 ·exact atom_new K s w N IHa hN h hk e0 e1 e2 e3 e4 e5 (by rw [hat,if_neg (by rw [e0];decide),if_neg (by rw [e1];decide),if_neg (by rw [e2];decide),if_neg (by rw [e3];decide),if_neg (by rw [e4];decide),if_pos e5])
 replace e5:s.sees 0 sNew=false:=by simpa using e5
 by_cases e6:s.sees 0 aah=true
 ·have hR:RX .atom s=([hdE (RX .expr (s.enter aah)).1],(RX .expr (s.enter aah)).2.leave aa6):=by rw [hat,if_neg (by rw [e0];decide),if_neg (by rw [e1];decide),if_neg (by rw [e2];decide),if_neg (by rw [e3];decide),if_neg (by rw [e4];decide),if_neg (by rw [e5];decide),if_pos e6]
  by_cases h41:s.op=41
  ·exact atom_many K s w h hk e0 e1 e2 e3 e4 e5 e6 h41 hR
  ·exact atom_open K s w N IHx hN h hk e0 e1 e2 e3 e4 e5 e6 h41 hR
 replace e6:s.sees 0 aah=false:=by simpa using e6
 exact atom_fail K s w h hk e0 e1 e2 e3 e4 e5 e6 (by rw [hat,if_neg (by rw [e0];decide),if_neg (by rw [e1];decide),if_neg (by rw [e2];decide),if_neg (by rw [e3];decide),if_neg (by rw [e4];decide),if_neg (by rw [e5];decide),if_neg (by rw [e6];decide)];rfl)
theorem atom_ofQ (N:Nat) (IHx:∀ m,m < N→SpecEx m) (IHa:∀ m,m < N→agl m):SpecTo N:=by
 intro K s w h hN
 have hk:=kind_of h
 have hat:=RX_atom s
 cases hw:s.ws[0]? with
 | none=>rw [hw] at hk hat;exact atom_fixQ K s w N IHx IHa hN h hk hat
 | some p =>
  obtain ⟨p,a⟩:=p
  have hs:∀ c,(∀ t,p≠.fx t)→s.sees 0 c=false:=by
   intro c hp
   unfold RS.sees
   rw [hw]
   cases p with
   | fx t=>exact absurd rfl (hp t)
   | nm t=>rfl
   | cl t=>rfl
   | nu t=>rfl
   | qu t=>rfl
  rw [hw] at hk hat
  cases p with
  | fx t=>exact atom_fixQ K s w N IHx IHa hN h hk hat
  | nu t=>exact atom_num K s w h (fun q hm hr=>(hk q hr).1) hat
  | qu t =>
   have hX:=qu_text (K:=K) hw
   refine atom_text K s w t h hk hX ?_ hat
   obtain ⟨q,hm,hr⟩:=h
   obtain ⟨x,hx,_,e⟩:=hX q hr
   have h5:=(hm.2.1.1 x (List.mem_of_getElem? hx)).2.2.2.2
   rw [← e]
   unfold maxLen
   simp only [ByteArray.size,List.size_toArray]
   omega
  | nm t =>
   have hf:=fun c=>hs c (fun u e=>by cases e)
   cases ho:s.name.sees 0 aah with
   | true=>exact atom_name_args K s w N IHa hN h hk (hf _) (hf _) (hf _) (hf _) (hf _) (hf _) hat ho
   | false=>exact atom_name_bare K s w N IHa hN h hk (hf _) (hf _) (hf _) (hf _) (hf _) (hf _) hat ho
  | cl t =>
   have hf:=fun c=>hs c (fun u e=>by cases e)
   cases ho:(s.class.need ado).name.sees 0 aah with
   | true=>exact atom_class_args K s w N IHa hN h hk (hf _) (hf _) (hf _) (hf _) (hf _) (hf _) hat ho
   | false=>exact atom_class_bare K s w N IHa hN h hk (hf _) (hf _) (hf _) (hf _) (hf _) (hf _) hat ho
theorem all_ofQ:∀ (N:Nat),∀ m,m < N→SpecEx m∧SpecBi m∧SpecUn m∧SpecTo m∧agl m∧SpecBh m:=by
 intro N
 induction N with
 | zero=>intro m hm;exact absurd hm (Nat.not_lt_zero _)
 | succ N ih =>
  intro m hm
  have h1:∀ k,k < m→SpecEx k∧SpecBi k∧SpecUn k∧SpecTo k∧agl k∧SpecBh k:=fun k hk=>ih k (by omega)
  exact ⟨expr_ofQ m fun k hk=>(h1 k hk).2.1,binary_ofQ m (fun k hk=>(h1 k hk).2.2.1) (fun k hk=>(h1 k hk).2.1),unary_ofQ m (fun k hk=>(h1 k hk).2.2.1) (fun k hk=>(h1 k hk).2.2.2.1) (fun k hk=>(h1 k hk).2.2.2.2.2),atom_ofQ m (fun k hk=>(h1 k hk).1) (fun k hk=>(h1 k hk).2.2.2.2.1),args_ofQ m (fun k hk=>(h1 k hk).1),behind_ofQ m (fun k hk=>(h1 k hk).2.2.2.2.1)⟩
theorem ag8 {K:QC} {s:RS} {w:World} (h:Rq K s w):Calls Tryz.prog 35 #[.pointer (some ⟨K.c,0,none⟩)] w (ExQ K w (RX .expr s)):=(all_ofQ _ _ (Nat.lt_succ_self _)).1 K s w h (Nat.le_refl _)
end
end Go.Proofs.YtddnnohfbagbnaaGreatDoor
