/- Parts of the proof: Laid, LaidW, Join, ExZ, Sz, Qdp, Qi, Qj, Qm, SzB. -/
import Derived.Test.YtddnnohfbagbnaaGreatDoorHi
import Derived.Test.YtddnnohfbagbnaaGreatDoorRows
import Derived.Test.YtddnnohfbagbnaaGreatDoorP2
import Derived.ChangeSame
import Derived.ChangeVars
import Derived.JoinedOf
import Derived.RowKit
import Derived.RowKitTokens
import Derived.LaidLaws
import Derived.LaidHandle
import Derived.Stop.Joined
import Derived.Test.YtddnnohfbagbnaaGreatDoorP8
import Derived.Deep.RegionWith
import Derived.Test.YtddnnohfbagbnaaGreatDoorP10
import Derived.Test.YtddnnohfbagbnaaGreatDoorP7
import Derived.Deep.RegionHeld3
import Derived.Test.YtddnnohfbagbnaaGreatDoorP15
set_option maxHeartbeats 8000000
set_option maxRecDepth 100000
namespace Go.Proofs.YtddnnohfbagbnaaGreatDoor
section
open Go.ChangeShapes Go.WideShapes Go.RowKit
abbrev laidL : List (String × DataW Unit) := [("math/bits.deBruijn32tab", Rows.laid_math_bits_deBruijn32tab), ("math/bits.deBruijn64tab", Rows.laid_math_bits_deBruijn64tab), ("internal/strconv.uint64pow10", Rows.laid_internal_strconv_uint64pow10), ("strconv.ErrRange", Rows.laid_strconv_ErrRange), ("strconv.ErrSyntax", Rows.laid_strconv_ErrSyntax)]
theorem g_syn : Tryz.prog.globalNamed "strconv.ErrSyntax" = some 0 := by kernel_rfl
theorem g_ran : Tryz.prog.globalNamed "strconv.ErrRange" = some 1 := by kernel_rfl
theorem g_synT:(Tryz.prog.globals[(0:Nat)]?).map (·.type)=some 203:=by kernel_rfl
theorem g_ranT:(Tryz.prog.globals[(1:Nat)]?).map (·.type)=some 203:=by kernel_rfl
theorem vars_of_laid {W:World} (h:laidMetH Tryz.prog laidL W):Vars W:=by
 have h':laidMet Tryz.prog laidL W:=h
 obtain ⟨ps,⟨g0,t0,cs0,f0,p0,q0,hg0,ht0,hv0,hd0,⟨g1,t1,cs1,f1,p1,q1,hg1,ht1,hv1,hd1,⟨g2,t2,cs2,f2,p2,q2,hg2,ht2,hv2,hd2,⟨g3,t3,cs3,f3,p3,q3,hg3,ht3,hv3,hd3,⟨g4,t4,cs4,f4,p4,q4,hg4,ht4,hv4,hd4,hq4,e4⟩,e3⟩,e2⟩,e1⟩,e0⟩,hnd,hrows⟩:=h'
 obtain rfl:=Option.some.inj (g_ran.symm.trans hg3)
 obtain rfl:=Option.some.inj (g_syn.symm.trans hg4)
 obtain rfl:=Option.some.inj (g_ranT.symm.trans ht3)
 obtain rfl:=Option.some.inj (g_synT.symm.trans ht4)
 obtain ⟨l3⟩:=cs3
 obtain ⟨l4⟩:=cs4
 obtain ⟨_,u3,v3,rfl,_,_⟩:=iface_of_trod Tryz.underlying203 hd3
 obtain ⟨_,u4,v4,rfl,_,_⟩:=iface_of_trod Tryz.underlying203 hd4
 exact ⟨⟨_,by simpa using World.var?_cell g_syn hv4 0,.inr ⟨_,_,rfl⟩⟩,_,by simpa using World.var?_cell g_ran hv3 0,.inr ⟨_,_,rfl⟩⟩
end
set_option linter.unusedSimpArgs false
set_option linter.unusedVariables false
section
open Go.ChangeShapes Go.WideShapes Go.RowKit
theorem ownK:ownKnob Tryz.prog.godebug=none:=by kernel_rfl
abbrev ranS:ByteArray:={ data:=#[118,97,108,117,101,32,111,117,116,32,111,102,32,114,97,110,103,101] }
abbrev synS:ByteArray:={ data:=#[105,110,118,97,108,105,100,32,115,121,110,116,97,120] }
def litV:DataW Unit→Value
 | .lit (.int k n)=>.int k n
 | _=>.int .i64 0
def aggV:DataW Unit→Array Value
 | .agg l=>(l.map litV).toArray
 | _=>#[]
noncomputable def lowB:Nat:=(World.holding Tryz.prog default ⟨#[],#[],[]⟩).heap.size
def putC (cs:Array Value):Obj→Obj
 | .cells _ t frozen=>.cells cs t frozen
 | o=>o
noncomputable def laidWorld (os:Os):World :=
 let w0:=World.holding Tryz.prog os ⟨#[.cells #[.string ranS] 239,.cells #[.string synS] 239],#[],[]⟩
 { w0 with heap:=((((w0.heap.modify 3 (putC (aggV Rows.laid_math_bits_deBruijn32tab))).modify 4 (putC (aggV Rows.laid_math_bits_deBruijn64tab))).modify 2 (putC (aggV Rows.laid_internal_strconv_uint64pow10))).modify 1 (putC #[.iface 237 (.pointer (some ⟨lowB,0,none⟩))])).modify 0 (putC #[.iface 237 (.pointer (some ⟨lowB+1,0,none⟩))]) }
theorem laidWorld_met (os:Os) (args:Array Value):laidMetH Tryz.prog laidL ((laidWorld os).forCall (fun _ _=>0) ⟨#[],args,[]⟩).memory:=by
 show laidMet Tryz.prog laidL _
 exact laidMet_of_run' 8 (by kernel_rfl) (by kernel_rfl)
end
section
open Go.RowKit
theorem as_fx (l:List Pl) (k:Nat):∀ w,(Instr.typeAssert (aar l k) 84 120 true).run Tryz.prog w=.ok (.tuple #[.string ((fxP l[k]?).getD ⟨#[]⟩),.bool (fxP l[k]?).isSome]) w:=by
 cases hx:l[k]? with
 | none=>exact fun w=>by simp only [aar,hx,fxP];exact is_no_fx w
 | some x =>
  obtain ⟨q,a⟩:=x
  cases q with
  | fx t=>exact fun w=>by simp only [aar,hx,fxP,Pr.V];exact is_fx_fx _ w
  | nm t=>exact fun w=>by simp only [aar,hx,fxP,Pr.V];exact is_nm_fx _ w
  | cl t=>exact fun w=>by simp only [aar,hx,fxP,Pr.V];exact is_cl_fx _ w
  | nu t=>exact fun w=>by simp only [aar,hx,fxP,Pr.V];exact is_nu_fx _ w
  | qu t=>exact fun w=>by simp only [aar,hx,fxP,Pr.V];exact is_qu_fx _ w
theorem tight_le (t:ByteArray):0≤aat t∧aat t≤6:=by
 unfold aat tightL
 repeat' split
 all_goals simp
theorem fx_get {l:List Pl} {t:ByteArray} (h:fxP l[0]?=some t):∃ a,l[0]?=some (.fx t,a):=by
 unfold fxP at h
 split at h
 ·rename_i a e;injection h with h;exact ⟨a,by rw [e,h]⟩
 ·cases h
theorem ExK.past {B C g:Nat} {w:World} {x y:Nd} (h:ExK B none w x y) (hg:g < B) (hC:C≤B):ExK C (some g) w x y:=by
 obtain ⟨k,n,tx,nm,ty,A,cap,l,e,hs,hf,hb⟩:=h
 exact ⟨k,n,tx,nm,ty,A,cap,l,e,hs,fun ws hk=>hf ws fun k j u hB _ hu=>hk k j u (Nat.le_trans hC hB) (by simp;omega) hu,hb⟩
theorem OwnR.two {B:Nat} {r:Option Nat} {W:World} {x y x' y':Nd} (h:ExK B r W x y) (h':ExK B r W x' y') (hB:B≤W.heap.size):OwnR B r (W.alloc (.cells (aab y ++ aab y').toArray 35)) (.slice (some ⟨W.heap.size,0,none⟩) 2 2) [y,y']:=by
 obtain ⟨hex,hk⟩:=h.kd
 obtain ⟨hex',hk'⟩:=h'.kd
 have hl:=World.ownsRow_lit (base:=B) (e:=35) (size:=8) W (aab y ++ aab y').toArray 2 hB (by unfold maxLen;omega) (by simp [acs,hex.tag,hex'.tag,Tg.sz])
 have key:∀ ws:World,(∀ k j u,B≤k→some k≠(Value.slice (some ⟨W.heap.size,0,none⟩) 2 2).ownBlock→some k≠r→(W.alloc (.cells (aab y ++ aab y').toArray 35)).cell? ⟨k,j,none⟩=some u→ws.cell? ⟨k,j,none⟩=some u)→∀ k j u,B≤k→some k≠r→W.cell? ⟨k,j,none⟩=some u→ws.cell? ⟨k,j,none⟩=some u:=by
  intro ws hs k j u hB' hr hu
  have hlt:=World.block_lt_of_cell? W (a:=⟨k,j,none⟩) hu
  exact hs k j u hB' (by simp only [Value.ownBlock] at hlt ⊢;simp;omega) hr (Keep.below ((Below.refl _ W).alloc (Nat.le_refl _) _) _ _ hu)
 exact ⟨by simpa using hl,by simpa using ⟨hex,hex'⟩,fun ws hs=>⟨hk ws (key ws hs),hk' ws (key ws hs),trivial⟩,by simp⟩
theorem joined_of (n:Nat) (IHS:SpecS n) (IHJ:∀ m,m≤n→SpecJ m):SpecJ (n+1):=by
 intro W0 w c s kk hv h hk1 hk7 hn
 obtain ⟨r,hr⟩:∃ r,run n .signed s=r:=⟨_,rfl⟩
 obtain ⟨RR,hRR⟩:∃ RR,run n (.loopJ kk (hdE r.1)) r.2=RR:=⟨_,rfl⟩
 have hR:run (n+1) (.joined kk) s=RR:=by simp only [run,hr,hRR]
 have hen:aaj n .signed s:=by simp only [aaj,Md.rank] at hn ⊢;omega
 have hl1:r.2.len≤s.len:=by have:=abm n .signed s;rw [hr] at this;exact this
 have hen2:aaj n (.loopJ kk (hdE r.1)) r.2:=by simp only [aaj,Md.rank] at hn ⊢;omega
 have hlt:=h.lt
 have hle0:=h.le
 obtain ⟨W1,hW1⟩:∃ W1,w.alloc (.cells #[.int .i64 0,.int .i32 0,.string ⟨#[]⟩,.string ⟨#[]⟩,.string ⟨#[]⟩,.slice none 0 0,.string ⟨#[]⟩,.int .i64 0] 35)=W1:=⟨_,rfl⟩
 have hb:Below w.heap.size w W1:=by rw [← hW1];exact (Below.refl _ w).alloc (Nat.le_refl _) _
 have hx:Bx W1 w.heap.size #[.int .i64 0,.int .i32 0,.string ⟨#[]⟩,.string ⟨#[]⟩,.string ⟨#[]⟩,.slice none 0 0,.string ⟨#[]⟩,.int .i64 0] 35:=by rw [← hW1];exact Bx.new _ _ _
 have hz:W1.heap.size=w.heap.size+1:=by rw [← hW1];simp
 have HM0:=ke (Mv.below hb h)
 have HX0:=ke hx
 clear hb hx
 have HX:=ke (IHS W0 W1 c s hv HM0.out.2 hen)
 rw [hr] at HX
 rw [hR]
 have HRR:=ke hRR
 have HEN:=ke hen2
 have HIH:=ke IHJ
 have HV:=ke hv
 clear hR hRR hr hen hen2 hn h IHS IHJ hl1 hv
 go_enter Tryz.func62,Tryz.ntmps62
 go_wp2_with fail
 refine HX.out.mono ?_
 clear HX hW1
 rintro e w2 ⟨y,rfl,hk,hm⟩
 have hs2:=hm.1.size
 have HK:=ke hk
 obtain ⟨k,m,tx,nm,ty,A,cap,l,rfl,_,_,_⟩:=hk
 have HF:=ke (show FolAt W0 w c w2.heap.size r.2 (hdE r.1) k m tx nm ty A cap l (w2.alloc (.cells #[.int .i64 k,.int .i32 m,.string tx,.string nm,.string ty,.slice A l.length cap,.string ⟨#[]⟩,.int .i64 0] 35)) from
  ⟨(HM0.out.trans hm).trans (Mv.below ((Below.refl _ _).alloc (Nat.le_refl _) _) hm.2),Bx.new _ _ _,(Bx.grown HX0.out hm.1 (by omega)).next ((Below.refl _ _).alloc (Nat.le_refl _) _),(ExK.excl HK.out ((Below.refl _ _).alloc (Nat.le_refl _) _) (Nat.le_refl _)).mono (by omega),by omega,hlt,hle0⟩)
 clear hm HK HM0 HX0
 simp only [aab]
 go_wp2_with fail
 go_loopw [8] (fun v8 wr=>∃ (m:Nat) (x:Nd) (s':RS) (k n':Int) (tx nm ty:ByteArray) (A:Option Addr) (cap:Nat) (l:List Nd),m≤n∧run m (.loopJ kk x) s'=RR∧aaj m (.loopJ kk x) s'∧FolAt W0 w c w2.heap.size s' x k n' tx nm ty A cap l wr) (fun v8 wr=>lenAt wr c)
 case atStart=>exact ⟨n,_,_,k,m,tx,nm,ty,A,cap,l,Nat.le_refl _,HRR.out,HEN.out,HF.out⟩
 case round =>
  obtain ⟨m,x,s',k,n',tx,nm,ty,A,cap,l,hmn,hrun,hen,hf⟩:=hrel
  obtain ⟨m,rfl⟩:∃ m',m=m'+1:=⟨m - 1,by simp only [aaj,Md.rank] at hen;omega⟩
  have hla:=abe hf.1.2
  have HF1:=ke hf
  have hb2:=hf.2.2.2.2.1
  have hlt2:w2.heap.size < wr.heap.size:=hf.2.1.lt
  have hasf:=as_fx s'.ws 0
  have HA:=ke (abl W0 wr c 0 s' hf.1.2 (by omega))
  obtain ⟨u0,hu0⟩:∃ u,aar s'.ws 0=u:=⟨_,rfl⟩
  rw [hu0] at hasf HA
  clear hu0
  cases h0:fxP s'.ws[0]? with
  | none =>
   rw [h0] at hasf
   simp only [Option.getD_none,Option.isSome_none] at hasf
   have hR:run (m+1) (.loopJ kk x) s'=([x],s'):=by simp only [run,h0]
   rw [hR] at hrun
   subst hrun
   have HF3:=HF1
   have HT:=ke (tight_any wr ⟨#[]⟩)
   have ht0:aat ⟨#[]⟩=0:=by decide +kernel
   rw [ht0] at HT
   clear hR hen hf h0 ht0
   go_wp2_with fail
   refine HA.out.mono ?_
   clear HA
   rintro e w3 ⟨rfl,rfl⟩
   go_wp2_with fail
   refine HT.out.mono ?_
   clear HT
   rintro e w3 ⟨rfl,rfl⟩
   have hx2:=HF3.out.2.2.1
   obtain ⟨r0,r1,r2,r3,r4,r5,r6,r7⟩:=hx2.all_8
   have g0:=hx2.fro 0;have g1:=hx2.fro 1;have g2:=hx2.fro 2;have g3:=hx2.fro 3;have g4:=hx2.fro 4;have g5:=hx2.fro 5;have g6:=hx2.fro 6;have g7:=hx2.fro 7
   obtain ⟨a0,a1,a2,a3,a4,a5,a6,a7⟩:=HF3.out.2.1.all_8
   have HG:=ke (aaw wr w.heap.size (.int .i64 k) (.int .i32 n') (.string tx) (.string nm) (.string ty) (.slice A l.length cap) (.string ⟨#[]⟩) (.int .i64 0))
   clear hx2
   go_wp2_with fail
   obtain ⟨z0,z1,z2,z3,z4,z5,z6,z7⟩:=(HF3.out.2.2.1.to_8 (.int .i64 k) (.int .i32 n') (.string tx) (.string nm) (.string ty) (.slice A l.length cap) (.string ⟨#[]⟩) (.int .i64 0)).all_8
   (try simp only [Exit.inBlock,Exit.then])
   refine bodyPost_ret (v:=.agg #[.int .i64 k,.int .i32 n',.string tx,.string nm,.string ty,.slice A l.length cap,.string ⟨#[]⟩,.int .i64 0]) (by simp [results,Tryz.results62,go_sem,z0,z1,z2,z3,z4,z5,z6,z7]) rfl ?_
   exact ⟨_,rfl,(HF3.out.2.2.2.1.free.grown HG.out (.inl (by omega))).mono (by omega),Mv.over (Below.refl _ _) HF3.out.1 HG.out (Nat.le_refl _) hlt⟩
  | some t =>
   rw [h0] at hasf
   simp only [Option.getD_some,Option.isSome_some] at hasf
   obtain ⟨tt,htt⟩:∃ tt,aat t=tt:=⟨_,rfl⟩
   have htl:=tight_le t
   have HT:=ke (tight_any wr t)
   rw [htt] at htl HT
   obtain ⟨htl0,htl6⟩:=htl
   by_cases hkt:kk≤tt
   ·obtain ⟨q,hq⟩:∃ q,run m (.joined (tt+1)) s'.skip=q:=⟨_,rfl⟩
    have hR:run (m+1) (.loopJ kk x) s'=run m (.loopJ kk (mkE 17 0 E0 t E0 [x,hdE q.1])) q.2:=by simp only [run,h0,htt,if_pos hkt,hq]
    rw [hR] at hrun
    obtain ⟨ta,hg0⟩:=fx_get h0
    have htx:t.size≤maxLen:=hf.1.2.text hg0
    have hne:=ahd hg0
    have h1:1≤s'.len:=by
     cases hw:s'.ws with
     | nil=>exact absurd hw hne
     | cons x l=>simp [RS.len,hw]
    have h2:=aaf s'
    have h3:q.2.len≤s'.skip.len:=by have:=abm m (.joined (tt+1)) s'.skip;rw [hq] at this;exact this
    have hE:aaj m (.joined (tt+1)) s'.skip:=by simp only [aaj,Md.rank] at hen ⊢;omega
    have hen2:aaj m (.loopJ kk (mkE 17 0 E0 t E0 [x,hdE q.1])) q.2:=by simp only [aaj,Md.rank] at hen ⊢;omega
    have HRUN:=ke hrun
    have HEN2:=ke hen2
    have HSK:=ke (afq W0 wr c s' hf.1.2 hne)
    have HX:Hid (∀ w',FolAt W0 w c w2.heap.size s'.skip x k n' tx nm ty A cap l w'→Calls Tryz.prog 62 #[.pointer (some ⟨c,0,none⟩),.int .i64 (tt+1)] w' (ExC W0 c w' q)):=by
     show ∀ w',_
     intro w' h';have:=HIH.out m (by omega) W0 w' c s'.skip (tt+1) HV.out h'.1.2 (by omega) (by omega) hE;rw [hq] at this;exact this
    have hlt':¬ tt < kk:=by omega
    have hwr0:wrap64 (tt+1)=tt+1:=by unfold wrap64;omega
    have hwr:IntKind.i64.wrap (tt+1)=tt+1:=by rw [IntKind.wrap_i64];omega
    clear hR hrun hen hE hen2 hq hf h0 hg0 htt hne
    go_wp2_with fail
    refine HA.out.mono ?_
    clear HA
    rintro e w3 ⟨rfl,rfl⟩
    go_wp2_with fail
    refine HT.out.mono ?_
    clear HT
    rintro e w3 ⟨rfl,rfl⟩
    go_wp2_with fail
    refine HSK.out.mono ?_
    clear HSK hasf
    rintro e w3 ⟨rfl,hm⟩
    have HF2:=ke (HF1.out.move hm)
    have HFD:Hid (FolAt W0 w c w2.heap.size s'.skip x k n' tx nm ty A cap l w3.drew):=ke (HF2.out.below (Below.refl _ _).drew)
    obtain ⟨a0,a1,a2,a3,a4,a5,a6,a7⟩:=HF2.out.2.1.all_8
    have hlt3:w2.heap.size < w3.drew.heap.size:=HFD.out.2.1.lt
    clear hm
    go_wp2_with fail
    go_region_law (go_simp;go_wp2_with (go_at_call 62;refine (HX.out _ HFD.out).mono ?_;rintro e w4 ⟨z,rfl,hk,hm⟩;have HF4:=ke (HFD.out.move hm);have HZ:=ke (hk.past (show w2.heap.size < _ from hlt3) (show w.heap.size+1≤_ by omega));have hbz:=ke hk.bare;obtain ⟨zk,zn,ztx,znm,zty,zA,zc,zl,rfl,_,_,_⟩:=hk;obtain ⟨b0,b1,b3,b4,b5,b6,b7,b8⟩:=HF4.out.2.1.all_8;obtain ⟨W5,hW5⟩:∃ W5,w4.alloc (.cells #[.int .i64 k,.int .i32 n',.string tx,.string nm,.string ty,.slice A l.length cap,.string ⟨#[]⟩,.int .i64 0,.int .i64 zk,.int .i32 zn,.string ztx,.string znm,.string zty,.slice zA zl.length zc,.string ⟨#[]⟩,.int .i64 0] 35)=W5:=⟨_,rfl⟩;have hb5:Below w4.heap.size w4 W5:=by { rw [← hW5];exact (Below.refl _ _).alloc (Nat.le_refl _) _ };have HF5:=ke (HF4.out.below hb5);have HO5:=ke (OwnR.two HF4.out.2.2.2.1 HZ.out (by have:=HF4.out.2.1.lt;omega));simp only [aab,List.cons_append,List.nil_append] at HO5;rw [hW5] at HO5;obtain ⟨r0,r1,r2,r3,r4,r5,r6,r7⟩:=HF5.out.2.1.all_8;have g0:=HF5.out.2.1.fro 0;have g1:=HF5.out.2.1.fro 1;have g2:=HF5.out.2.1.fro 2;have g3:=HF5.out.2.1.fro 3;have g4:=HF5.out.2.1.fro 4;have g5:=HF5.out.2.1.fro 5;have g6:=HF5.out.2.1.fro 6;have g7:=HF5.out.2.1.fro 7;have hlt4:=HF4.out.2.1.lt;clear hm hb5;simp only [aab]))
    all_goals
     have HK6:Hid (aaq (mkE 17 0 E0 t E0 [x,hdE q.1])=.ex 17 0 ⟨#[]⟩ t ⟨#[]⟩ (.slice none 0 0) (aai [Nd.ex k n' tx nm ty (.slice A l.length cap) l ⟨#[]⟩ 0,Nd.ex zk zn ztx znm zty (.slice zA zl.length zc) zl ⟨#[]⟩ 0]) ⟨#[]⟩ 0):=ke (ab4 (by simp only [aai];rw [HF2.out.2.2.2.1.bare,hbz.out]) _ _ _ _ _)
     have hn4:∀ g,some w2.heap.size=some g→(Value.slice (some ⟨w4.heap.size,0,none⟩) 2 2).ownBlock≠some g:=by intro g hg;injection hg with hg;subst hg;simp only [Value.ownBlock,ne_eq,Option.some.injEq];omega
     have hszz:(⟨#[]⟩:ByteArray).size≤maxLen∧t.size≤maxLen∧(⟨#[]⟩:ByteArray).size≤maxLen:=⟨Nat.zero_le _,htx,Nat.zero_le _⟩
     have hmn':m≤n:=by omega
     clear a0 a1 a2 a3 a4 a5 a6 a7
     go_wp2_with fail
     have hk6:=HO5.out.node hn4 17 0 ⟨#[]⟩ t ⟨#[]⟩ hszz HK6.out
     have HF6:=ke (HF5.out.put (l:=[_,_]) hk6)
     go_roundw
     case rel=>exact ⟨m,_,_,_,_,_,_,_,_,_,_,hmn',HRUN.out,HEN2.out,HF6.out⟩
     case measure=>(refine Nat.lt_of_le_of_lt (Nat.le_of_eq (abe HF6.out.1.2)) ?_;rw [hla];omega)
   ·have hR:run (m+1) (.loopJ kk x) s'=([x],s'):=by simp only [run,h0,htt,if_neg hkt]
    rw [hR] at hrun
    subst hrun
    have HF3:=HF1
    have hlt':tt < kk:=by omega
    clear hR hen hf h0
    go_wp2_with fail
    refine HA.out.mono ?_
    clear HA
    rintro e w3 ⟨rfl,rfl⟩
    go_wp2_with fail
    refine HT.out.mono ?_
    clear HT
    rintro e w3 ⟨rfl,rfl⟩
    have hx2:=HF3.out.2.2.1
    obtain ⟨r0,r1,r2,r3,r4,r5,r6,r7⟩:=hx2.all_8
    have g0:=hx2.fro 0;have g1:=hx2.fro 1;have g2:=hx2.fro 2;have g3:=hx2.fro 3;have g4:=hx2.fro 4;have g5:=hx2.fro 5;have g6:=hx2.fro 6;have g7:=hx2.fro 7
    obtain ⟨a0,a1,a2,a3,a4,a5,a6,a7⟩:=HF3.out.2.1.all_8
    have HG:=ke (aaw wr w.heap.size (.int .i64 k) (.int .i32 n') (.string tx) (.string nm) (.string ty) (.slice A l.length cap) (.string ⟨#[]⟩) (.int .i64 0))
    clear hx2
    go_wp2_with fail
    obtain ⟨z0,z1,z2,z3,z4,z5,z6,z7⟩:=(HF3.out.2.2.1.to_8 (.int .i64 k) (.int .i32 n') (.string tx) (.string nm) (.string ty) (.slice A l.length cap) (.string ⟨#[]⟩) (.int .i64 0)).all_8
    (try simp only [Exit.inBlock,Exit.then])
    refine bodyPost_ret (v:=.agg #[.int .i64 k,.int .i32 n',.string tx,.string nm,.string ty,.slice A l.length cap,.string ⟨#[]⟩,.int .i64 0]) (by simp [results,Tryz.results62,go_sem,z0,z1,z2,z3,z4,z5,z6,z7]) rfl ?_
    exact ⟨_,rfl,(HF3.out.2.2.2.1.free.grown HG.out (.inl (by omega))).mono (by omega),Mv.over (Below.refl _ _) HF3.out.1 HG.out (Nat.le_refl _) hlt⟩
end
section
open Go.RowKit
theorem signed_of (n:Nat) (IHS:SpecS n) (IHF:SpecF n):SpecS (n+1):=by
 intro W0 w c s hv h hn
 cases h0:s.sees 0 abh with
 | true=>exact signed_0 n IHS W0 w c s hv h hn h0
 | false =>
  cases h1:s.sees 0 aig with
  | true=>exact signed_1 n IHS W0 w c s hv h hn h0 h1
  | false =>
   cases h2:s.sees 0 aj5 with
   | true=>exact signed_2 n IHS W0 w c s hv h hn h0 h1 h2
   | false=>exact signed_3 n IHF W0 w c s hv h hn h0 h1 h2
structure AllSp (n:Nat):Prop where
 e:SpecE n
 j:SpecJ n
 s:SpecS n
 f:SpecF n
 a:SpecA n
 x:SpecX n
 u:SpecU n
 r:SpecR n
 l:SpecL n
theorem allSp_zero:AllSp 0:=by
 constructor
 ·intro W0 w c s hv h hn;simp only [aaj,Md.rank] at hn;omega
 ·intro W0 w c s k hv h h1 h7 hn;simp only [aaj,Md.rank] at hn;omega
 ·intro W0 w c s hv h hn;simp only [aaj,Md.rank] at hn;omega
 ·intro W0 w c s hv h hn;simp only [aaj,Md.rank] at hn;omega
 ·intro W0 w c s hv h hn;simp only [aaj,Md.rank] at hn;omega
 ·intro W0 w c s hv h hn;simp only [aaj,Md.rank] at hn;omega
 ·intro W0 w B r c s p k ty v xs ys hv h hn;simp only [aaj,Md.rank] at hn;omega
 ·intro W0 w c s hv h hn;simp only [aaj,Md.rank] at hn;omega
 ·intro W0 w c s hv h hn;simp only [aaj,Md.rank] at hn;omega
theorem allSp:∀ n,AllSp n:=by
 intro n
 induction n using Nat.strongRecOn with
 | ind n ih =>
  cases n with
  | zero=>exact allSp_zero
  | succ n =>
   have h:=ih n (by omega)
   exact ⟨expr_of n h.j,joined_of n h.s (fun m hm=>(ih m (by omega)).j),signed_of n h.s h.f,followed_of n h.a (fun m hm=>(ih m (by omega)).u),atom_of n h.u h.x,fixed_of n h.u h.r h.e,used_of n h.r,args_of n h.l,listed_of n (fun m hm=>(ih m (by omega)).e)⟩
theorem ex_any:abw:=fun W0 w c s hv h=>(allSp (14 * s.len+9)).e W0 w c s hv h (Nat.le_refl _)
theorem ar_any:adi:=fun W0 w c s hv h=>(allSp (14 * s.len+12)).r W0 w c s hv h (Nat.le_refl _)
theorem prg_any (W0 w:World) (c:Nat) (s:RS) (hv:Vars W0) (h:Rd W0 c s w):Calls Tryz.prog 14 #[.pointer (some ⟨c,0,none⟩)] w (PgC W0 c w (prg s)):=prog_any ex_any ar_any W0 w c s hv h
end
section
open Go.RowKit
theorem ab1 (x:Nd):aal [x]=x.size:=by simp [aal]
theorem ait (k n:Int) (tx nm ty:ByteArray) (l:List Nd):(mkE k n tx nm ty l).size=1+aal l:=by simp [mkE,Nd.size]
theorem sz_two (x y:Nd):aal [x,y]=x.size+y.size:=by simp [aal]
theorem sz_noE:noE.size=1:=by simp [noE,mkE,Nd.size,aal]
theorem sz_hd (l:List Nd):(hdE l).size≤aal l∨((hdE l).size=1∧l=[]):=by
 cases l with
 | nil=>right;exact ⟨sz_noE,rfl⟩
 | cons x l=>left;simp [hdE,aal]
theorem ac3 {s:RS} {p:ByteArray} (h:s.sees 0 p=true):1≤s.len:=by
 cases hw:s.ws with
 | nil=>simp [RS.sees,aik,hw] at h
 | cons x l=>simp [RS.len,hw]
def Md.ext:Md→Nat
 | .loopJ _ e=>e.size|.loopF e=>e.size|.used _ _ _ l=>1+aal l|.more l=>aal l|_=>1
theorem hd_le {l:List Nd} {a b c:Nat} (h:aal l+2 * a≤2 * b+c) (hl:a≤b) (hc:1≤c):(hdE l).size+2 * a≤2 * b+c:=by
 rcases sz_hd l with h1|⟨h1,_⟩<;>omega
theorem run_size:∀ (n:Nat) (m:Md) (s:RS),aal (run n m s).1+2 * (run n m s).2.len≤2 * s.len+m.ext:=by
 intro n
 induction n with
 | zero=>intro m s;simp [run,aal]<;>omega
 | succ n ih =>
  intro m s
  cases m with
  | expr=>exact ih _ _
  | joined k =>
   simp only [run]
   have h1:=ih .signed s
   have h2:=abm n .signed s
   have h3:=hd_le h1 h2 (Nat.le_refl _)
   have h4:=ih (.loopJ k (hdE (run n .signed s).1)) (run n .signed s).2
   simp only [Md.ext] at h3 h4 ⊢
   omega
  | loopJ k e =>
   simp only [run]
   split
   ·rename_i t ht
    split
    ·have hl:1≤s.len:=by
      cases hw:s.ws with
      | nil=>simp [hw,fxP] at ht
      | cons x l=>simp [RS.len,hw]
     have h0:=aaf s
     have h1:=ih (.joined (aat t+1)) s.skip
     have h2:=abm n (.joined (aat t+1)) s.skip
     have h3:=hd_le h1 h2 (Nat.le_refl _)
     have h4:=ih (.loopJ k (mkE 17 0 E0 t E0 [e,hdE (run n (.joined (aat t+1)) s.skip).1])) (run n (.joined (aat t+1)) s.skip).2
     simp only [Md.ext,ait,sz_two] at h3 h4 ⊢
     omega
    ·simp only [ab1,Md.ext];omega
   ·simp only [ab1,Md.ext];omega
  | signed =>
   simp only [run]
   split
   ·rename_i t ht
    have hl:1≤s.len:=by
     unfold acz at ht
     split at ht
     ·rename_i h;exact ac3 h
     ·split at ht
      ·rename_i h;exact ac3 h
      ·split at ht
       ·rename_i h;exact ac3 h
       ·cases ht
    have h0:=aa4 s t
    have h1:=ih .signed (s.enter t)
    have h2:=abm n .signed (s.enter t)
    have h3:=hd_le h1 h2 (Nat.le_refl _)
    have h5:=len_dec (run n .signed (s.enter t)).2
    simp only [ab1,ait,Md.ext] at h3 ⊢
    omega
   ·exact ih _ _
  | followed =>
   simp only [run]
   have h1:=ih .atom s
   have h2:=abm n .atom s
   have h3:=hd_le h1 h2 (Nat.le_refl _)
   have h4:=ih (.loopF (hdE (run n .atom s).1)) (run n .atom s).2
   simp only [Md.ext] at h3 h4 ⊢
   omega
  | loopF e =>
   simp only [run]
   have h0:=aaf s
   have hc:=aaz s.skip
   split
   ·rename_i h
    have hl:=ac3 h
    have h1:=ih (.used 7 10 E0 [e]) s.skip
    have h2:=abm n (.used 7 10 E0 [e]) s.skip
    have h3:=hd_le h1 h2 (by simp [Md.ext])
    have h4:=ih (.loopF (hdE (run n (.used 7 10 E0 [e]) s.skip).1)) (run n (.used 7 10 E0 [e]) s.skip).2
    simp only [Md.ext,ab1] at h3 h4 ⊢
    omega
   ·split
    ·rename_i h
     have hl:=ac3 h
     have h4:=ih (.loopF (mkE 15 0 E0 E0 s.skip.classV [e])) s.skip.class
     simp only [Md.ext,ait,ab1] at h4 ⊢
     omega
    ·split
     ·rename_i h
      have hl:=ac3 h
      have h4:=ih (.loopF (mkE 16 0 E0 E0 s.skip.classV [e])) s.skip.class
      simp only [Md.ext,ait,ab1] at h4 ⊢
      omega
     ·simp only [ab1,Md.ext];omega
  | used p c ty l =>
   simp only [run]
   have h0:=abg s
   split
   ·rename_i h
    have hl:=ac3 h
    have h1:=ih .args s.name
    simp only [ab1,ait,ab2,Md.ext] at h1 ⊢
    omega
   ·simp only [ab1,ait,Md.ext];omega
  | args =>
   simp only [run]
   have h0:=aa4 s aah
   have h1:=ih .listed (s.enter aah)
   have h2:=agi (run n .listed (s.enter aah)).2 aa6
   simp only [Md.ext] at h1 ⊢
   omega
  | listed =>
   simp only [run]
   split
   ·simp [aal,Md.ext]<;>omega
   ·have h1:=ih .expr s
    have h2:=abm n .expr s
    have h3:=hd_le h1 h2 (Nat.le_refl _)
    have h4:=ih (.more [hdE (run n .expr s).1]) (run n .expr s).2
    simp only [Md.ext,ab1] at h3 h4 ⊢
    omega
  | more l =>
   simp only [run]
   split
   ·rename_i h
    have hl:=ac3 h
    have h0:=aaf s
    have h1:=ih .expr s.skip
    have h2:=abm n .expr s.skip
    have h3:=hd_le h1 h2 (Nat.le_refl _)
    have h4:=ih (.more (l ++ [hdE (run n .expr s.skip).1])) (run n .expr s.skip).2
    simp only [Md.ext,ab2,ab1] at h3 h4 ⊢
    omega
   ·simp only [Md.ext];omega
  | atom =>
   simp only [run]
   have h0:=aaf s
   have h1:=aaz s
   have h2:=aan s.class ado
   have h3:=len_num s 2147483647
   split
   ·simp only [ab1,ait,Md.ext,aal];omega
   ·simp only [ab1,ait,Md.ext,aal];omega
   ·have:=ih (.used 6 11 E0 []) s;simp only [Md.ext,aal] at this ⊢;omega
   ·have:=ih (.used 9 13 s.classV []) (s.class.need ado);simp only [Md.ext,aal] at this ⊢;omega
   ·have:=ih .fixed s;simp only [Md.ext] at this ⊢;omega
  | fixed =>
   simp only [run]
   have h0:=aaf s
   have h1:=aaz s.skip
   have h2:=aan s.skip af5
   have h3:=aa4 s aah
   have h4:=ih (.used 8 12 E0 []) (s.skip.need af5)
   have h5:=ih .args s.skip.class
   have h6:=ih .expr (s.enter aah)
   have h7:=abm n .expr (s.enter aah)
   have h8:=hd_le h6 h7 (Nat.le_refl _)
   have h9:=agi (run n .expr (s.enter aah)).2 aa6
   have h10:=agu s 3
   simp only [Md.ext,aal] at h4 h5 h8
   repeat' split
   all_goals simp only [ab1,ait,sz_noE,Md.ext,aal]
   all_goals first
    | omega
    | (rename_i h;have hl:=ac3 h;omega)
end
section
open Go.RowKit
def QDeepOf (s:Nat):Prop:=∀ (w:World) (k n:Int) (tx nm ty:ByteArray) (nv:Value) (l:List Nd) (own:ByteArray) (nth:Int),Kd w (.ex k n tx nm ty nv l own nth)→(Nd.ex k n tx nm ty nv l own nth).size≤s →
 Calls Tryz.prog 38 #[.agg #[.int .i64 k,.int .i32 n,.string tx,.string nm,.string ty,nv,.string own,.int .i64 nth]] w fun e w'=>e=.returned (.int .i64 (abk (.ex k n tx nm ty nv l own nth)))∧Below w.heap.size w w'
theorem qdeep_row:∀ s,s≤1000000→QDeepOf s:=by
 intro s
 induction s using Nat.strongRecOn with
 | ind s ih =>
  intro hs w k n tx nm ty nv l own nth hk hle
  have hsz:(Nd.ex k n tx nm ty nv l own nth).size=1+aal l:=by simp [Nd.size]
  have hdn:abk (.ex k n tx nm ty nv l own nth)=acm l+1:=by simp [abk]
  have hdb:acm l+1≤1000001:=by have:=ael _ _ (Nat.le_refl (Nd.ex k n tx nm ty nv l own nth).size);omega
  rw [hsz] at hle
  rw [hdn]
  rw [Kd] at hk
  obtain ⟨A,cap,rfl⟩:=hk.2.1.form
  obtain ⟨m,hm⟩:∃ m,l.length=m:=⟨_,rfl⟩
  have hml:m≤aal l:=by rw [← hm];exact agh l
  obtain ⟨d,hd⟩:∃ d,acm l=d:=⟨_,rfl⟩
  rw [hd] at hdb ⊢
  have HDD:=ke hd
  have HR:=ke hk.2.1;have HK:=ke hk.2.2;have HLN:=ke hm
  rw [hm] at HR ⊢
  clear hk hsz hm hdn hd
  go_enter Tryz.func38,Tryz.ntmps38
  go_wp2_with fail
  refine aak (fun W=>Bx W w.heap.size #[.int .i64 k,.int .i32 n,.string tx,.string nm,.string ty,.slice A m cap,.string own,.int .i64 nth] 35∧Below w.heap.size w W∧W.heap.size=w.heap.size+1) ?_ ?_
  ·exact ⟨Bx.new _ _ _,(Below.refl _ w).alloc (Nat.le_refl _) _,by simp⟩
  ·rintro W ⟨hx,hW,hWs1⟩
   have HSW:=ke hWs1
   have HX:=ke hx;have HW:=ke hW
   have hlt:=hx.lt
   clear hx hW hWs1
   go_loopw [3,4] (fun v3 v4 wr=>∃ j a:Nat,v4=.int .i64 j∧j≤m∧v3=.int .i64 a∧a=acm (l.take j)∧Below (w.heap.size+1) W wr) (fun v3 v4 wr=>m - (intOf v4).toNat)
   case atStart=>exact ⟨0,0,rfl,Nat.zero_le _,rfl,by simp [acm],Below.refl _ _⟩
   case round =>
    obtain ⟨j,a,rfl,hjm,rfl,ha,hB⟩:=hrel
    have HA:=ke ha
    clear ha
    have hBw:Below w.heap.size w wr:=HW.out.trans (hB.mono (Nat.le_succ _))
    have hWs:=HW.out.size
    have hBs:=hB.size
    have K:=Keep.below hBw
    have d5:=(HX.out.next (show Below W.heap.size W wr by rw [HSW.out];exact hB)).cell 5
    simp only [List.getElem?_toArray,List.getElem?_cons_zero,List.getElem?_cons_succ] at d5
    by_cases hlt2:j < m
    ·obtain ⟨b,o,x,rfl,hx,hxt,hc⟩:=(HR.out.keep K).get hlt2
     have hxk:=KdL.mem_get (KdL.keep K _ HK.out) hx
     cases x<;>first|(simp [Nd.tag] at hxt;done)|skip
     rename_i xk xn xtx xnm xty xv xl xown xnth
     have c0:=hc 0 _ rfl;have c1:=hc 1 _ rfl;have c2:=hc 2 _ rfl;have c3:=hc 3 _ rfl;have c4:=hc 4 _ rfl;have c5:=hc 5 _ rfl;have c6:=hc 6 _ rfl;have c7:=hc 7 _ rfl
     simp only [Tg.sz,Nat.add_zero] at c0 c1 c2 c3 c4 c5 c6 c7
     have hz:=aff hx
     have hle2:=ago l (j+1)
     have hdt:=depth_take hx
     have HX1:Hid (∀ w',Below wr.heap.size wr w'→Calls Tryz.prog 38 #[.agg #[.int .i64 xk,.int .i32 xn,.string xtx,.string xnm,.string xty,xv,.string xown,.int .i64 xnth]] w' fun e w''=>e=.returned (.int .i64 (abk (.ex xk xn xtx xnm xty xv xl xown xnth)))∧Below w'.heap.size w' w''):=by
      show ∀ w',_
      intro w' hb
      exact ih (Nd.ex xk xn xtx xnm xty xv xl xown xnth).size (by omega) (by omega) w' xk xn xtx xnm xty xv xl xown xnth (Kd.keep (Keep.below hb) _ hxk) (Nat.le_refl _)
     obtain ⟨q,hq⟩:∃ q,abk (.ex xk xn xtx xnm xty xv xl xown xnth)=q:=⟨_,rfl⟩
     rw [hq] at HX1 hdt
     have HZ:=ke hdt
     rw [Kd] at hxk
     obtain ⟨xA,xcap,rfl⟩:=hxk.2.1.form
     clear hc hxk hx hxt K ih hq hz hle2 hdt
     go_wp2_with (go_at_call 38;refine (HX1.out _ (by first|exact Below.refl _ _|exact (Below.refl _ _).alloc (Nat.le_refl _) _)).mono ?_;clear HX1;rintro e w1 ⟨rfl,hb⟩;have HB1:=ke hb;clear hb)
     have hb2:Below (w.heap.size+1) W w1:=by
      exact hB.trans (HB1.out.mono (by have:=hB.size;have:=HSW.out;omega))
     refine ⟨⟨j+1,max a q,by go_num,by omega,?_,by rw [HZ.out,← HA.out],hb2⟩,by simp [intOf];omega⟩
     congr 1;omega
    ·have hkl:l.take j=l:=List.take_of_length_le (by rw [HLN.out];omega)
     have had:a=d:=by rw [HA.out,hkl,HDD.out]
     subst had
     have HD:=ke hBw
     clear ih hkl K hB hBw
     go_wp2_with fail
     go_ret
     exact ⟨by simp,HD.out⟩
end
section
open Go.RowKit
variable {K:QC} {q q':QS} {s t:RS} {w w' w'':World}
theorem isName_any (h:Qm K q w) (j:Nat) (hj:j≤1):Calls Tryz.prog 89 #[.pointer (some ⟨K.c,0,none⟩),.int .i64 j] w fun e w'=>e=.returned (.bool (nmQ K.L q j).isSome)∧Below w.heap.size w w':=by
 have HI:Hid (∀ w',Below w.heap.size w w'→Calls Tryz.prog 49 #[.pointer (some ⟨K.c,0,none⟩),.int .i64 j,.int .i64 1,.string ⟨#[]⟩] w' fun e w''=>e=.returned (.bool (isQ K.L q j 1 ⟨#[]⟩))∧w'=w''):=ke fun w' hb=>ai3 (h.below hb) j 1 ⟨#[]⟩ hj (by omega)
 have hq:=name_q (L:=K.L) (q:=q) j
 rw [← hq]
 clear hq
 cases hi:isQ K.L q j 1 ⟨#[]⟩ with
 | false =>
  rw [hi] at HI
  clear h hi
  go_enter Tryz.func89,Tryz.ntmps89
  go_upto_region 1 with (fail)
  go_quiet ((go_at_call 49;exact Calls.quiet_of_same ((HI.out _ (by first|exact Below.refl _ _|exact below_drewN (Below.refl _ _) _)).mono fun e w' hh=>⟨hh.1,hh.2.symm⟩)))
  go_wp2_with fail
  go_ret
  exact ⟨rfl,below_drewN (Below.refl _ _) _⟩
 | true =>
  rw [hi] at HI
  obtain ⟨c0,_,c2,_,_,_⟩:=h.cells
  have hf:=h.few
  cases hx:K.L[q.k+j]? with
  | none=>unfold isQ at hi;rw [hx] at hi;simp at hi
  | some x =>
   have hkl:=(List.getElem?_eq_some_iff.1 hx).1
   have hl:(q.k:Int)+(j:Int) < K.L.length:=by omega
   have hz:(0:Int)≤(q.k:Int)+(j:Int):=by omega
   have hz2:((q.k:Int)+(j:Int)).toNat=q.k+j:=by omega
   obtain ⟨g,o,hA,d0,d1,d2⟩:=h.word hx
   have ht:txtQ K.L q j=x.t:=by unfold txtQ;rw [hx]
   rw [ht]
   rw [hA] at c0
   obtain ⟨b,hb⟩:∃ b,aer x.t=b:=⟨_,rfl⟩
   have HS:Hid (∀ w',Calls Tryz.prog 140 #[.string ⟨x.t.toArray⟩] w' fun e w''=>e=.returned (.bool b)∧Below w'.heap.size w' w''):=ke fun w'=>by rw [← hb];exact smallQ_any ⟨x.t.toArray⟩ w'
   rw [hb]
   have HCE:Hid (∀ w',Below w.heap.size w w'→w'.cell? ⟨K.c,0,none⟩=some (.slice (some ⟨g,o,none⟩) K.L.length K.cap)∧w'.cell? ⟨K.c,2,none⟩=some (.int .i64 q.k)∧w'.cell? ⟨g,o+(q.k+j) * 3+1,none⟩=some (.string ⟨x.t.toArray⟩)):=by
    refine ke fun w' hb=>?_
    have KK:=Keep.below hb
    exact ⟨KK _ _ c0,KK _ _ c2,KK _ _ d1⟩
   have hb0:Below w.heap.size w w.drew:=(Below.refl _ _).drew
   have hwr:IntKind.i64.wrap ((q.k:Int)+(j:Int))=(q.k:Int)+(j:Int):=by rw [IntKind.wrap_i64];omega
   clear h hx hi ht hb hA
   go_enter Tryz.func89,Tryz.ntmps89
   go_upto_region 1 with (fail)
   go_region_held3 (fun w'=>w'.cell? ⟨K.c,0,none⟩=some (.slice (some ⟨g,o,none⟩) K.L.length K.cap)∧w'.cell? ⟨K.c,2,none⟩=some (.int .i64 q.k)∧w'.cell? ⟨g,o+(q.k+j) * 3+1,none⟩=some (.string ⟨x.t.toArray⟩))
    (first|with_reducible exact HCE.out _ hb0|with_reducible exact HCE.out _ hb2)
    ((first
      | (go_at_call 49;refine (HI.out _ hb0).mono ?_;rintro e w1 ⟨rfl,rfl⟩)
      | (go_at_call 140;refine (HS.out _).mono ?_;rintro e w2 ⟨rfl,hb⟩;have hb2:=hb0.trans (hb.mono hb0.size);clear hb)))
   go_wp2_with fail
   go_ret
   exact ⟨by simp,hb2⟩
theorem isClass_any (h:Qm K q w) (j:Nat) (hj:j≤1):Calls Tryz.prog 46 #[.pointer (some ⟨K.c,0,none⟩),.int .i64 j] w fun e w'=>e=.returned (.bool (clQ K.L q j).isSome)∧Below w.heap.size w w':=by
 have HI:Hid (∀ w',Below w.heap.size w w'→Calls Tryz.prog 49 #[.pointer (some ⟨K.c,0,none⟩),.int .i64 j,.int .i64 1,.string ⟨#[]⟩] w' fun e w''=>e=.returned (.bool (isQ K.L q j 1 ⟨#[]⟩))∧w'=w''):=ke fun w' hb=>ai3 (h.below hb) j 1 ⟨#[]⟩ hj (by omega)
 have hq:=class_q (L:=K.L) (q:=q) j
 rw [← hq]
 clear hq
 cases hi:isQ K.L q j 1 ⟨#[]⟩ with
 | false =>
  rw [hi] at HI
  clear h hi
  go_enter Tryz.func46,Tryz.ntmps46
  go_upto_region 1 with (fail)
  go_quiet ((go_at_call 49;exact Calls.quiet_of_same ((HI.out _ (by first|exact Below.refl _ _|exact below_drewN (Below.refl _ _) _)).mono fun e w' hh=>⟨hh.1,hh.2.symm⟩)))
  go_wp2_with fail
  go_ret
  exact ⟨rfl,below_drewN (Below.refl _ _) _⟩
 | true =>
  rw [hi] at HI
  obtain ⟨c0,_,c2,_,_,_⟩:=h.cells
  have hf:=h.few
  cases hx:K.L[q.k+j]? with
  | none=>unfold isQ at hi;rw [hx] at hi;simp at hi
  | some x =>
   have hkl:=(List.getElem?_eq_some_iff.1 hx).1
   have hl:(q.k:Int)+(j:Int) < K.L.length:=by omega
   have hz:(0:Int)≤(q.k:Int)+(j:Int):=by omega
   have hz2:((q.k:Int)+(j:Int)).toNat=q.k+j:=by omega
   obtain ⟨g,o,hA,d0,d1,d2⟩:=h.word hx
   have ht:txtQ K.L q j=x.t:=by unfold txtQ;rw [hx]
   rw [ht]
   rw [hA] at c0
   obtain ⟨b,hb⟩:∃ b,bigQ x.t=b:=⟨_,rfl⟩
   have HS:Hid (∀ w',Calls Tryz.prog 86 #[.string ⟨x.t.toArray⟩] w' fun e w''=>e=.returned (.bool b)∧w'=w''):=ke fun w'=>by rw [← hb];exact bigQ_any ⟨x.t.toArray⟩ w'
   rw [hb]
   have hwr:IntKind.i64.wrap ((q.k:Int)+(j:Int))=(q.k:Int)+(j:Int):=by rw [IntKind.wrap_i64];omega
   clear h hx hi ht hb hA
   go_enter Tryz.func46,Tryz.ntmps46
   go_upto_region 1 with (fail)
   go_quiet ((first|(go_at_call 49;exact Calls.quiet_of_same ((HI.out _ (by first|exact Below.refl _ _|exact below_drewN (Below.refl _ _) _)).mono fun e w' hh=>⟨hh.1,hh.2.symm⟩))|(go_at_call 86;exact Calls.quiet_of_same ((HS.out _).mono fun e w' hh=>⟨hh.1,hh.2.symm⟩))))
   go_wp2_with fail
   go_ret
   exact ⟨by simp,below_drewN (Below.refl _ _) _⟩
theorem Rel.nmw (hm:Qm K q w) (hr:Rel K.L K.n q s):s.name=(match nmQ K.L q 0 with|some t=>s.called t true|none=>s.called ⟨#[]⟩ false)∧s.nameV=byV (nmQ K.L q 0):=by
 have h:=hr.nm hm.2.1.1 0
 unfold RS.name RS.nameV RS.byO
 rw [h]
 exact ⟨rfl,rfl⟩
theorem Rel.clw (hm:Qm K q w) (hr:Rel K.L K.n q s):s.class=(match clQ K.L q 0 with|some t=>s.called t true|none=>s.called ⟨#[]⟩ false)∧s.classV=byV (clQ K.L q 0):=by
 have h:=hr.cl hm.2.1.1 0
 unfold RS.class RS.classV RS.byO
 rw [h]
 exact ⟨rfl,rfl⟩
theorem word_any (hm:Qm K q w) (hr:Rel K.L K.n q s) (h0:s.wc=0) {x:Wd} (hx:K.L[q.k]?=some x):Calls Tryz.prog 47 #[.pointer (some ⟨K.c,0,none⟩)] w fun e w'=>e=.returned (.string (RS.calledV ⟨x.t.toArray⟩ true))∧Tq K (s.called ⟨x.t.toArray⟩ true) w w':=by
 obtain ⟨c0,_,c2,_,_,_⟩:=hm.cells
 have hf:=hm.few
 have f2:=hm.2.2.2.fro 2
 have hk:=(List.getElem?_eq_some_iff.1 hx).1
 have hl:(q.k:Int) < K.L.length:=by omega
 have hz:(0:Int)≤q.k:=by omega
 obtain ⟨g,o,hA,d0,d1,d2⟩:=hm.word hx
 rw [hA] at c0
 obtain ⟨t,ht⟩:∃ t:ByteArray,(⟨x.t.toArray⟩:ByteArray)=t:=⟨_,rfl⟩
 rw [ht] at d1 ⊢
 have hts:(t.size:Int)≤32000:=by
  have:=(hm.2.1.1 x (List.mem_of_getElem? hx)).2.2.2.2
  rw [← ht]
  have e:(⟨x.t.toArray⟩:ByteArray).size=x.t.length:=by simp [ByteArray.size]
  omega
 have HMQ:=ke hm
 have HRL:=ke hr
 by_cases h20:20 < t.size
 ·have h20':(20:Int) < t.size:=by omega
  have e1:s.called t true=s.fail 5:=by unfold RS.called;rw [if_pos rfl,if_pos h20]
  have e2:RS.calledV t true=⟨#[]⟩:=by unfold RS.calledV;rw [if_neg (by omega)]
  rw [e1,e2]
  clear hm hr hx e1 e2 ht hA
  go_enter Tryz.func47,Tryz.ntmps47
  go_upto_region 1 with (fail)
  go_quiet (fail)
  go_wp2_with (go_at_call 36;refine (aeb (k:=5) ⟨q,HMQ.out.below (below_drewN (Below.refl _ _) _),HRL.out⟩ (by decide)).mono ?_;rintro e w2 ⟨rfl,ht⟩;have HT2:=ke ht;clear ht)
  go_ret
  exact ⟨rfl,(Tq.below ⟨q,HMQ.out,HRL.out⟩ (below_drewN (Below.refl _ _) _)).trans HT2.out⟩
 ·have h20':(t.size:Int)≤20:=by omega
  have e1:s.called t true=s.skip:=by unfold RS.called;rw [if_pos rfl,if_neg h20]
  have e2:RS.calledV t true=t:=by unfold RS.calledV;rw [if_pos ⟨rfl,by omega⟩]
  rw [e1,e2]
  have hst:=hm.step hk
  simp only [Int.natCast_add,Int.natCast_one] at hst
  have HSK:=ke (Tq.of hst (hr.skip h0 hk))
  clear hst
  clear hm hr hx e1 e2 ht hA
  go_enter Tryz.func47,Tryz.ntmps47
  go_upto_region 1 with (fail)
  go_quiet (fail)
  go_wp2_with fail
  go_ret
  refine ⟨rfl,?_⟩
  first
   | exact HSK.out.trans (Tq.below HSK.out.2 (below_drewN (Below.refl _ _) _))
   | exact HSK.out
end
section
open Go.RowKit
variable {K:QC} {q q':QS} {s t:RS} {w w' w'':World}
theorem afh (h:Rq K s w):Calls Tryz.prog 52 #[.pointer (some ⟨K.c,0,none⟩)] w fun e w'=>e=.returned (.string s.nameV)∧Tq K s.name w w':=by
 obtain ⟨q,hm,hr⟩:=h
 obtain ⟨e1,e2⟩:=Rel.nmw hm hr
 have HI:Hid (Calls Tryz.prog 89 #[.pointer (some ⟨K.c,0,none⟩),.int .i64 0] w fun e w'=>e=.returned (.bool (nmQ K.L q 0).isSome)∧Below w.heap.size w w'):=ke (isName_any hm 0 (by omega))
 have HMQ:=ke hm
 have HRL:=ke hr
 cases hq:nmQ K.L q 0 with
 | none =>
  rw [hq] at e1 e2 HI
  have e3:s.name=s.fail 3:=e1
  have e4:s.nameV=⟨#[]⟩:=e2
  rw [e3,e4]
  clear hm hr e1 e2 e3 e4 hq
  go_enter Tryz.func52,Tryz.ntmps52
  go_wp2_with (first|(go_at_call 89;refine HI.out.mono ?_;rintro e w1 ⟨rfl,hb⟩;have HB:=ke hb;clear hb)|(go_at_call 36;refine (aeb (k:=3) ⟨q,HMQ.out.below HB.out,HRL.out⟩ (by decide)).mono ?_;rintro e w2 ⟨rfl,ht⟩;have HT2:=ke ht;clear ht))
  go_ret
  exact ⟨rfl,(Tq.below ⟨q,HMQ.out,HRL.out⟩ HB.out).trans HT2.out⟩
 | some t =>
  rw [hq] at e1 e2 HI
  obtain ⟨x,hx,hb0,ht⟩:∃ x,K.L[q.k]?=some x∧q.bd=0∧t=⟨x.t.toArray⟩:=by
   unfold nmQ at hq
   split at hq
   ·rename_i hb
    rw [Nat.add_zero] at hq
    cases hx:K.L[q.k]? with
    | none=>rw [hx] at hq;cases hq
    | some x =>
     rw [hx] at hq
     simp only at hq
     split at hq
     ·injection hq with hq;exact ⟨x,rfl,hb,hq.symm⟩
     ·cases hq
   ·cases hq
  have h0:s.wc=0:=by rw [← hr.bad];exact hb0
  have HW:Hid (∀ w',Below w.heap.size w w'→Calls Tryz.prog 47 #[.pointer (some ⟨K.c,0,none⟩)] w' fun e w''=>e=.returned (.string (RS.calledV t true))∧Tq K (s.called t true) w' w''):=ke fun w' hb=>by rw [ht];exact word_any (hm.below hb) hr h0 hx
  have e3:s.name=s.called t true:=e1
  have e4:s.nameV=RS.calledV t true:=e2
  rw [e3,e4]
  clear hm hr e1 e2 e3 e4 hq hx hb0 ht
  go_enter Tryz.func52,Tryz.ntmps52
  go_wp2_with (first|(go_at_call 89;refine HI.out.mono ?_;rintro e w1 ⟨rfl,hb⟩;have HB:=ke hb;clear hb)|(go_at_call 47;refine (HW.out _ HB.out).mono ?_;rintro e w2 ⟨rfl,ht⟩;have HT2:=ke ht;clear ht))
  go_ret
  exact ⟨rfl,(Tq.below ⟨q,HMQ.out,HRL.out⟩ HB.out).trans HT2.out⟩
theorem age (h:Rq K s w):Calls Tryz.prog 20 #[.pointer (some ⟨K.c,0,none⟩)] w fun e w'=>e=.returned (.string s.classV)∧Tq K s.class w w':=by
 obtain ⟨q,hm,hr⟩:=h
 obtain ⟨e1,e2⟩:=Rel.clw hm hr
 have HI:Hid (Calls Tryz.prog 46 #[.pointer (some ⟨K.c,0,none⟩),.int .i64 0] w fun e w'=>e=.returned (.bool (clQ K.L q 0).isSome)∧Below w.heap.size w w'):=ke (isClass_any hm 0 (by omega))
 have HMQ:=ke hm
 have HRL:=ke hr
 cases hq:clQ K.L q 0 with
 | none =>
  rw [hq] at e1 e2 HI
  have e3:s.class=s.fail 3:=e1
  have e4:s.classV=⟨#[]⟩:=e2
  rw [e3,e4]
  clear hm hr e1 e2 e3 e4 hq
  go_enter Tryz.func20,Tryz.ntmps20
  go_wp2_with (first|(go_at_call 46;refine HI.out.mono ?_;rintro e w1 ⟨rfl,hb⟩;have HB:=ke hb;clear hb)|(go_at_call 36;refine (aeb (k:=3) ⟨q,HMQ.out.below HB.out,HRL.out⟩ (by decide)).mono ?_;rintro e w2 ⟨rfl,ht⟩;have HT2:=ke ht;clear ht))
  go_ret
  exact ⟨rfl,(Tq.below ⟨q,HMQ.out,HRL.out⟩ HB.out).trans HT2.out⟩
 | some t =>
  rw [hq] at e1 e2 HI
  obtain ⟨x,hx,hb0,ht⟩:∃ x,K.L[q.k]?=some x∧q.bd=0∧t=⟨x.t.toArray⟩:=by
   unfold clQ at hq
   split at hq
   ·rename_i hb
    rw [Nat.add_zero] at hq
    cases hx:K.L[q.k]? with
    | none=>rw [hx] at hq;cases hq
    | some x =>
     rw [hx] at hq
     simp only at hq
     split at hq
     ·injection hq with hq;exact ⟨x,rfl,hb,hq.symm⟩
     ·cases hq
   ·cases hq
  have h0:s.wc=0:=by rw [← hr.bad];exact hb0
  have HW:Hid (∀ w',Below w.heap.size w w'→Calls Tryz.prog 47 #[.pointer (some ⟨K.c,0,none⟩)] w' fun e w''=>e=.returned (.string (RS.calledV t true))∧Tq K (s.called t true) w' w''):=ke fun w' hb=>by rw [ht];exact word_any (hm.below hb) hr h0 hx
  have e3:s.class=s.called t true:=e1
  have e4:s.classV=RS.calledV t true:=e2
  rw [e3,e4]
  clear hm hr e1 e2 e3 e4 hq hx hb0 ht
  go_enter Tryz.func20,Tryz.ntmps20
  go_wp2_with (first|(go_at_call 46;refine HI.out.mono ?_;rintro e w1 ⟨rfl,hb⟩;have HB:=ke hb;clear hb)|(go_at_call 47;refine (HW.out _ HB.out).mono ?_;rintro e w2 ⟨rfl,ht⟩;have HT2:=ke ht;clear ht))
  go_ret
  exact ⟨rfl,(Tq.below ⟨q,HMQ.out,HRL.out⟩ HB.out).trans HT2.out⟩
theorem open_no (hm:Qm K q w) (h40:40 < q.dp):Calls Tryz.prog 87 #[.pointer (some ⟨K.c,0,none⟩)] w fun e w'=>e=.returned (.bool false)∧Mq K (q.fail K.L K.n 4) w w':=by
 obtain ⟨_,_,_,_,_,c5⟩:=hm.cells
 have HF:=ke (qfail_any hm 4)
 clear hm
 go_enter Tryz.func87,Tryz.ntmps87
 go_wp2_with (go_at_call 36;refine HF.out.mono ?_;rintro e w2 ⟨rfl,ht⟩;have HT2:=ke ht;clear ht)
 go_ret
 exact ⟨rfl,HT2.out⟩
theorem open_yes (hm:Qm K q w) (h40:q.dp≤40) (h0:0≤q.dp):Calls Tryz.prog 87 #[.pointer (some ⟨K.c,0,none⟩)] w fun e w'=>e=.returned (.bool true)∧Mq K { q with dp:=q.dp+1 } w w':=by
 obtain ⟨_,_,_,_,_,c5⟩:=hm.cells
 have f5:=hm.2.2.2.fro 5
 have HD:=ke (hm.deep (q.dp+1))
 clear hm
 go_enter Tryz.func87,Tryz.ntmps87
 go_wp2_with fail
 go_ret
 exact ⟨rfl,HD.out⟩
theorem numQ_le (l:List UInt8):∀ a:Nat,a≤1099511627776→numQ a l≤1099511627776:=by
 induction l with
 | nil=>intro a h;rw [numQ_nil];exact h
 | cons c r ih=>intro a h;rw [numQ_cons];exact ih _ (by unfold capQ;omega)
theorem numQ_snoc (l:List UInt8) (c:UInt8) (a:Nat):numQ a (l ++ [c])=capQ (numQ a l * 10+(c.toNat - 48)):=by simp only [numQ,List.foldl_append,List.foldl_cons,List.foldl_nil]
theorem take_snoc {l:List UInt8} {i:Nat} (h:i < l.length):l.take (i+1)=l.take i ++ [l[i]]:=by rw [List.take_succ_eq_append_getElem h]
theorem qnumber_any (h:Rq K s w) (most:Int) (hm0:0≤most) (hm1:most≤2147483647):Calls Tryz.prog 135 #[.pointer (some ⟨K.c,0,none⟩),.int .i64 most] w fun e w'=>e=.returned (.int .i32 (s.numR most))∧Tq K (s.num most) w w':=by
 obtain ⟨q,hm,hr⟩:=h
 have HI:Hid (Calls Tryz.prog 49 #[.pointer (some ⟨K.c,0,none⟩),.int .i64 0,.int .i64 2,.string ⟨#[]⟩] w fun e w'=>e=.returned (.bool (isQ K.L q 0 2 ⟨#[]⟩))∧w=w'):=ke (ai3 hm 0 2 ⟨#[]⟩ (by omega) (by omega))
 rw [num_q] at HI
 have hnu:=hr.nu hm.2.1.1
 have HMQ:=ke hm
 have HRL:=ke hr
 cases hq:nuQ K.L q with
 | none =>
  rw [hq] at HI hnu
  have e3:s.num most=s.fail 3:=by unfold RS.num;rw [hnu]
  have e4:s.numR most=0:=by unfold RS.numR;rw [hnu]
  rw [e3,e4]
  clear hm hr e3 e4 hq hnu
  go_enter Tryz.func135,Tryz.ntmps135
  go_wp2_with (first|(go_at_call 49;refine HI.out.mono ?_;rintro e w1 ⟨rfl,rfl⟩)|(go_at_call 36;refine (aeb (k:=3) ⟨q,HMQ.out,HRL.out⟩ (by decide)).mono ?_;rintro e w2 ⟨rfl,ht⟩;have HT2:=ke ht;clear ht))
  go_ret
  exact ⟨rfl,HT2.out⟩
 | some t =>
  rw [hq] at HI hnu
  obtain ⟨x,hx,hb0,hk2,ht⟩:∃ x,K.L[q.k]?=some x∧q.bd=0∧x.k=2∧t=⟨x.t.toArray⟩:=by
   unfold nuQ at hq
   split at hq
   ·rename_i hb
    cases hx:K.L[q.k]? with
    | none=>rw [hx] at hq;cases hq
    | some x =>
     rw [hx] at hq
     simp only at hq
     split at hq
     ·rename_i h2;injection hq with hq;exact ⟨x,rfl,hb,h2,hq.symm⟩
     ·cases hq
   ·cases hq
  have h0:s.wc=0:=by rw [← hr.bad];exact hb0
  obtain ⟨c0,_,c2,_,_,_⟩:=hm.cells
  have hf:=hm.few
  have f2:=hm.2.2.2.fro 2
  have hk:=(List.getElem?_eq_some_iff.1 hx).1
  have hl:(q.k:Int) < K.L.length:=by omega
  have hz:(0:Int)≤q.k:=by omega
  obtain ⟨g,o,hA,d0,d1,d2⟩:=hm.word hx
  rw [hA] at c0
  have hwell:=hm.2.1.1 x (List.mem_of_getElem? hx)
  have htl:t.data.toList=x.t:=by rw [ht]
  have hdig:=(hwell.2.2.2.1 hk2).1
  have hne:=(hwell.2.2.2.1 hk2).2
  rw [← htl] at hdig hne
  have hts:(t.size:Int)≤32000:=by
   have h5:=hwell.2.2.2.2
   have e:t.data.toList.length=t.size:=by simp
   rw [htl] at e
   omega
  rw [← ht] at d1
  have hno:=numO_q t hdig hne
  have hst:=hm.step hk
  simp only [Int.natCast_add,Int.natCast_one] at hst
  have HSK:=ke (Tq.of hst (hr.skip h0 hk))
  have HDG:=ke hdig
  have HNO:=ke hno
  have HNU:=ke hnu
  clear hst hm hr hq hx hwell htl hne hk2 ht hA hdig hno hnu
  go_enter Tryz.func135,Tryz.ntmps135
  go_upto_region 4 with (go_at_call 49;refine HI.out.mono ?_;rintro e w1 ⟨rfl,rfl⟩)
  go_quiet (fail)
  go_wp2_with fail
  go_loopw [6,7] (fun v6 v7 wr=>∃ i:Nat,v7=.int .i64 i∧i≤t.size∧v6=.int .i64 (numQ 0 (t.data.toList.take i):Nat)∧wr=w.drewN nq) (fun v6 v7 wr=>t.size - (intOf v7).toNat)
  case atStart=>exact ⟨0,rfl,Nat.zero_le _,by simp [numQ_nil],rfl⟩
  case round =>
   obtain ⟨i,rfl,hi,rfl,rfl⟩:=hrel
   by_cases hlt:i < t.size
   ·have hl':(i:Int) < t.size:=by omega
    have hi0:(0:Int)≤i:=by omega
    have hlen:t.data.toList.length=t.size:=by simp
    have hbt:=abu t i hlt
    have hb256:=ac2 t i
    obtain ⟨c,hc,hcn,_⟩:=ad1 t i hlt
    have hcm:c ∈ t.data.toList:=by
     have:c ∈ t.data.toList.drop i:=by rw [hc];exact List.mem_cons_self
     exact List.mem_of_mem_drop this
    have hdc:=HDG.out c hcm
    rw [hcn] at hdc
    have hcg:t.data.toList[i]'(by omega)=c:=by
     have h1:=List.drop_eq_getElem_cons (l:=t.data.toList) (i:=i) (by omega)
     rw [hc] at h1
     injection h1 with h1 _
     exact h1.symm
    have hN:Hid (numQ 0 (t.data.toList.take (i+1))=capQ (numQ 0 (t.data.toList.take i) * 10+(bt t i - 48))):=by
     refine ke ?_
     rw [take_snoc (by omega),numQ_snoc,hcg,hcn]
    obtain ⟨N,hNe⟩:∃ N,numQ 0 (t.data.toList.take i)=N:=⟨_,rfl⟩
    have hNle:(N:Int)≤1099511627776:=by have:=numQ_le (t.data.toList.take i) 0 (by omega);omega
    have hN0:(0:Int)≤N:=by omega
    rw [hNe] at hN
    have hd1:(48:Int)≤bt t i:=by omega
    have hd2:(bt t i:Int)≤57:=by omega
    have hwr:IntKind.u8.wrap ((bt t i:Int) - 48)=(bt t i:Int) - 48:=by rw [IntKind.wrap_u8];omega
    rw [hNe]
    clear hNe hc hcn hcm hdc hcg hlen
    go_wp2_with fail
    exact ⟨⟨i+1,by simp,by omega,congrArg (Value.int _) (by rw [hN.out];unfold capQ;omega),trivial⟩,by simp [intOf];omega⟩
   ·obtain rfl:i=t.size:=by omega
    have htk:t.data.toList.take t.size=t.data.toList:=List.take_of_length_le (by simp)
    rw [htk]
    obtain ⟨N,hNe⟩:∃ N,numQ 0 t.data.toList=N:=⟨_,rfl⟩
    have hno:=HNO.out
    have hnu:=HNU.out
    have hNle:(N:Int)≤1099511627776:=by have:=numQ_le t.data.toList 0 (by omega);omega
    rw [hNe] at hno ⊢
    by_cases hNm:(N:Int)≤most
    ·have hsome:numO t=some (N:Int):=by
      rcases hno with h|h
      ·exact h.2
      ·omega
     have e3:s.num most=s.skip:=by unfold RS.num RS.numT;rw [hnu];simp only [hsome];rw [if_pos hNm]
     have e4:s.numR most=N:=by unfold RS.numR RS.numV;rw [hnu];simp only [hsome];rw [if_pos hNm]
     have hw32:IntKind.i32.wrap (N:Int)=N:=by rw [IntKind.wrap_i32];omega
     have E3:=ke e3
     have E4:=ke e4
     clear hno hnu e3 e4 hsome hNe htk
     go_wp2_with fail
     go_ret
     exact ⟨by rw [E4.out];simp [hw32],by rw [E3.out];exact HSK.out.trans (Tq.below HSK.out.2 (below_drewN (Below.refl _ _) _))⟩
    ·have hNm':most < (N:Int):=by omega
     have e3:s.num most=s.fail 5:=by
      unfold RS.num RS.numT;rw [hnu]
      rcases hno with h|h
      ·simp only [h.2];rw [if_neg hNm]
      ·simp only [h.2]
     have e4:s.numR most=0:=by
      unfold RS.numR RS.numV;rw [hnu]
      rcases hno with h|h
      ·simp only [h.2];rw [if_neg hNm]
      ·simp only [h.2]
     have E3:=ke e3
     have E4:=ke e4
     clear hno hnu e3 e4 hNe htk
     go_wp2_with (go_at_call 36;refine (aeb (k:=5) ⟨q,HMQ.out.below (below_drewN (Below.refl _ _) _),HRL.out⟩ (by decide)).mono ?_;rintro e w2 ⟨rfl,ht⟩;have HT2:=ke ht;clear ht)
     go_ret
     exact ⟨by rw [E4.out];rfl,by rw [E3.out];exact (Tq.below ⟨q,HMQ.out,HRL.out⟩ (below_drewN (Below.refl _ _) _)).trans HT2.out⟩
end
section
open Go.RowKit
variable {K:QC} {q q':QS} {s t:RS} {w w' w'':World}
def ExQ (K:QC) (w:World) (r:List Nd×RS) (e:Ending) (w':World):Prop:=∃ x y,e=.returned (.agg (aab y).toArray)∧ExK w.heap.size none w' x y∧(r.2.wc=0→aaq x=aaq (hdE r.1))∧Tq K r.2 w w'
def LsQ (K:QC) (w:World) (r:List Nd×RS) (e:Ending) (w':World):Prop:=∃ v ys,e=.returned v∧OwnE w.heap.size w' v ys∧(r.2.wc=0→aai ys=aai r.1)∧ys.length≤8010∧Tq K r.2 w w'
def atOf (w:World) (c:Nat):Nat:=match w.cell? ⟨c,2,none⟩ with|some (.int _ k)=>k.toNat|_=>0
theorem Qm.atOf (h:Qm K q w):atOf w K.c=q.k:=by
 obtain ⟨_,_,c2,_⟩:=h.cells
 unfold Go.Proofs.YtddnnohfbagbnaaGreatDoor.atOf
 rw [c2];simp
theorem Rq.left (h:Rq K s w) (h0:s.wc=0):K.L.length - atOf w K.c=s.len:=by
 obtain ⟨q,hm,hr⟩:=h
 rw [hm.atOf]
 unfold RS.len
 rw [(hr.2.2.1 h0).2.1];simp
theorem Rq.few (h:Rq K s w):s.len≤8000:=by
 obtain ⟨q,hm,hr⟩:=h
 have:=hm.few
 by_cases h0:s.wc=0
 ·unfold RS.len;rw [(hr.2.2.1 h0).2.1];simp;omega
 ·unfold RS.len;rw [(hr.fb h0).2];simp
theorem Tq.row {o:Option Nat} (h:Tq K s w w') (hg:w'.grownBy w'' o) (ho:∀ k,o=some k→w.heap.size≤k) (hc:K.c < w.heap.size) (hle:K.W0.heap.size≤w.heap.size):Tq K s w w'':=by
 obtain ⟨h1,q,⟨kb,ok,hk,bx⟩,hr⟩:=h
 refine ⟨⟨hg.os.trans h1.os,hg.tape.trans h1.tape,hg.output.trans h1.output,Nat.le_trans h1.size hg.size,fun k hk hne=>(hg.block k (Nat.lt_of_lt_of_le hk h1.size) (fun e=>by have:=ho k e.symm;omega)).trans (h1.block k hk hne)⟩,q,⟨kb.grown hg kb.size (fun k e=>by have:=ho k e;omega),ok,hk,?_⟩,hr⟩
 exact (hg.block K.c bx.lt (fun e=>by have:=ho _ e.symm;omega)).trans bx
theorem sign_s (hm:Qm K q w) (hr:Rel K.L K.n q s) {p:ByteArray} (hp:ajh p) (ha:alL p.data.toList=false):isQ K.L q 0 4 p=s.sees 0 p:=by
 rw [sign_q hm.2.1.1 ha,hr.sees hm.2.1.1 0 hp]
theorem aa9 (h:Rq K s w) {p:ByteArray} (hp:ajh p) (ha:alL p.data.toList=false):Calls Tryz.prog 22 #[.pointer (some ⟨K.c,0,none⟩),.string p] w fun e w'=>e=.returned (.bool (s.sees 0 p))∧w=w':=by
 obtain ⟨q,hm,hr⟩:=h
 rw [← sign_s hm hr hp ha]
 exact sign_any hm p
theorem Rel.into {L:List Wd} {n:Int} (hr:Rel L n q s) (h0:s.wc=0) (hk:q.k < L.length) (h4:s.op≤40):Rel L n { q with k:=q.k+1,dp:=q.dp+1 } s.skip.inc:=by
 have h1:=hr.skip h0 hk
 obtain ⟨a1,a2,a3,a4,a5,a6⟩:=h1
 obtain ⟨_,b2,b3,b4,b5⟩:=hr.2.2.1 h0
 obtain ⟨c1,c2,c3,_,_⟩:=a3 h0
 have e:wrap64 (s.op+1)=s.op+1:=by simp only [wrap64];omega
 refine ⟨a1,a2,fun _=>⟨c1,c2,?_,?_,?_⟩,fun e=>absurd h0 e,a5,a6⟩
 ·show q.dp+1=wrap64 (s.op+1);rw [e,b3]
 ·show 0≤wrap64 (s.op+1);rw [e];omega
 ·show wrap64 (s.op+1)≤41;rw [e];omega
theorem Rel.out {L:List Wd} {n:Int} (hr:Rel L n q t) (h:t.wc=0→1≤t.op):Rel L n { q with dp:=q.dp - 1 } t.dec:=by
 obtain ⟨a1,a2,a3,a4,a5,a6⟩:=hr
 refine ⟨a1,a2,fun h0=>?_,a4,a5,a6⟩
 have h0':t.wc=0:=h0
 obtain ⟨c1,c2,c3,c4,c5⟩:=a3 h0'
 have:=h h0'
 have e:wrap64 (t.op - 1)=t.op - 1:=by simp only [wrap64];omega
 refine ⟨c1,c2,?_,?_,?_⟩
 ·show q.dp - 1=wrap64 (t.op - 1);rw [e,c3]
 ·show 0≤wrap64 (t.op - 1);rw [e];omega
 ·show wrap64 (t.op - 1)≤41;rw [e];omega
def SpecEx (N:Nat):Prop:=∀ (K:QC) (s:RS) (w:World),Rq K s w→20 * s.len+13≤N→Calls Tryz.prog 35 #[.pointer (some ⟨K.c,0,none⟩)] w (ExQ K w (RX .expr s))
def SpecBi (N:Nat):Prop:=∀ (K:QC) (s:RS) (w:World) (k:Nat),Rq K s w→1≤k→k≤7→20 * s.len+(13 - k)≤N→Calls Tryz.prog 65 #[.pointer (some ⟨K.c,0,none⟩),.int .i64 k] w (ExQ K w (RX (.joined k) s))
def SpecUn (N:Nat):Prop:=∀ (K:QC) (s:RS) (w:World),Rq K s w→20 * s.len+5≤N→Calls Tryz.prog 110 #[.pointer (some ⟨K.c,0,none⟩)] w (ExQ K w (RX .signed s))
def SpecTo (N:Nat):Prop:=∀ (K:QC) (s:RS) (w:World),Rq K s w→20 * s.len+3≤N→Calls Tryz.prog 145 #[.pointer (some ⟨K.c,0,none⟩)] w (ExQ K w (RX .atom s))
def agl (N:Nat):Prop:=∀ (K:QC) (s:RS) (w:World),Rq K s w→20 * s.len+14≤N→Calls Tryz.prog 136 #[.pointer (some ⟨K.c,0,none⟩)] w (LsQ K w (RX .args s))
theorem Tq.after (hW:Below w.heap.size w w') (h:Tq K s w' w''):Tq K s w w'' :=
 ⟨World.grownBy.trans ⟨hW.os,hW.tape,hW.output,hW.size,fun k hk _=>hW.block k hk⟩ h.1,h.2⟩
theorem expr_ofQ (N:Nat) (IH:∀ m,m < N→SpecBi m):SpecEx N:=by
 intro K s w h hn
 obtain ⟨r,hr⟩:∃ r,RX .expr s=r:=⟨_,rfl⟩
 have hr':RX (.joined 1) s=r:=by rw [← RX_expr];exact hr
 have hlt:=h.lt
 have hle0:=h.le
 obtain ⟨W1,hW1⟩:∃ W1,w.alloc (.cells #[.int .i64 0,.int .i32 0,.string ⟨#[]⟩,.string ⟨#[]⟩,.string ⟨#[]⟩,.slice none 0 0,.string ⟨#[]⟩,.int .i64 0] 35)=W1:=⟨_,rfl⟩
 have hb:Below w.heap.size w W1:=by rw [← hW1];exact (Below.refl _ w).alloc (Nat.le_refl _) _
 have hx:Bx W1 w.heap.size #[.int .i64 0,.int .i32 0,.string ⟨#[]⟩,.string ⟨#[]⟩,.string ⟨#[]⟩,.slice none 0 0,.string ⟨#[]⟩,.int .i64 0] 35:=by rw [← hW1];exact Bx.new _ _ _
 have hz:W1.heap.size=w.heap.size+1:=by rw [← hW1];simp
 have HC:Hid (Calls Tryz.prog 65 #[.pointer (some ⟨K.c,0,none⟩),.int .i64 1] W1 (ExQ K W1 r)):=by
  have:=IH (20 * s.len+12) (by omega) K s W1 1 (h.below hb) (by omega) (by omega) (by omega)
  rw [show ((1:Nat):Int)=1 from rfl,hr'] at this
  exact ke this
 rw [hr]
 clear hr hr' IH h hn
 go_enter Tryz.func35,Tryz.ntmps35
 go_wp2_with fail
 clear hW1
 refine HC.out.mono ?_
 clear HC
 rintro e w2 ⟨x,y,rfl,hk,hbe,hm⟩
 obtain ⟨k,m,tx,nm,ty,A,cap,l,rfl,hs,hf,hbb⟩:=hk
 have HK:Hid (ExK W1.heap.size none w2 x (.ex k m tx nm ty (.slice A l.length cap) l ⟨#[]⟩ 0)):=⟨k,m,tx,nm,ty,A,cap,l,rfl,hs,hf,hbb⟩
 have hx2:Bx w2 w.heap.size _ _:=(hm.1.block _ hx.lt (by simp;omega)).trans hx
 obtain ⟨r0,r1,r2,r3,r4,r5,r6,r7⟩:=hx2.all_8
 have g0:=hx2.fro 0;have g1:=hx2.fro 1;have g2:=hx2.fro 2;have g3:=hx2.fro 3;have g4:=hx2.fro 4;have g5:=hx2.fro 5;have g6:=hx2.fro 6;have g7:=hx2.fro 7
 have hg:=aaw w2 w.heap.size (.int .i64 k) (.int .i32 m) (.string tx) (.string nm) (.string ty) (.slice A l.length cap) (.string ⟨#[]⟩) (.int .i64 0)
 have HM:=ke ((Tq.after hb hm).row hg (fun k e=>by injection e with e;omega) hlt hle0)
 have HK2:=ke ((HK.out.grown hg (.inl (by omega))).mono (show w.heap.size≤W1.heap.size by omega))
 have HX:=ke hx2
 have HBE:=ke hbe
 simp only [aab]
 clear hf hs hbb hm hx2 hg HK hx hb hbe
 go_wp2_with fail
 obtain ⟨z0,z1,z2,z3,z4,z5,z6,z7⟩:=(HX.out.to_8 (.int .i64 k) (.int .i32 m) (.string tx) (.string nm) (.string ty) (.slice A l.length cap) (.string ⟨#[]⟩) (.int .i64 0)).all_8
 refine bodyPost_ret (v:=.agg #[.int .i64 k,.int .i32 m,.string tx,.string nm,.string ty,.slice A l.length cap,.string ⟨#[]⟩,.int .i64 0]) (by simp [results,Tryz.results35,go_sem,z0,z1,z2,z3,z4,z5,z6,z7]) rfl ?_
 exact ⟨_,_,rfl,HK2.out,HBE.out,HM.out⟩
end
section
open Go.RowKit
theorem agy (k n:Int) (ty nm:ByteArray) (e a b c:List Nd):(mkS k n ty nm e a b c).size=1+(aal e+aal a+aal b+aal c):=by simp [mkS,Nd.size]
theorem sz_ex (s:RS):(hdE (ex s).1).size+2 * (ex s).2.len≤2 * s.len+1:=hd_le (run_size _ _ _) (abm _ _ _) (Nat.le_refl _)
theorem sz_ar (s:RS):aal (ar s).1+2 * (ar s).2.len≤2 * s.len+1:=run_size _ _ _
theorem sz_finE (s:RS):aal (af3 s).1+2 * (ex s).2.len≤2 * s.len+1∧(af3 s).2.len≤(ex s).2.len - 1∧(ex s).2.len≤s.len:=by
 refine ⟨?_,aan _ _,ai1 s⟩
 have:=sz_ex s
 show aal [hdE (ex s).1]+_≤_
 rw [ab1];exact this
theorem sz_cond (s:RS):aal (aft s).1+4 * (aft s).2.len≤1+4 * (s.len - 1)∧(aft s).2.len≤s.len - 1:=by
 have h1:=aan s aah
 have h2:=sz_ex (s.need aah)
 have h3:=ai1 (s.need aah)
 have h4:=aan (ex (s.need aah)).2 aa6
 have e1:aal (aft s).1=(hdE (ex (s.need aah)).1).size:=ab1 _
 have e2:(aft s).2.len=((ex (s.need aah)).2.need aa6).len:=rfl
 omega
def Sz4 (b:Rb):Prop:=∀ s,aal (b s).1+4 * (b s).2.len≤4 * s.len
section
variable {b:Rb} (hb:Sz4 b)
include hb
theorem sz_choS (s:RS):(choS b s).1.size+4 * (choS b s).2.len≤2+4 * s.len:=by
 have h1:=sz_cond s
 have h2:=hb (aft s).2
 have h3:=aaf (b (aft s).2).2
 have h4:=hb (b (aft s).2).2.skip
 unfold choS
 split
 ·simp only [agy,aal];omega
 ·simp only [agy,aal];omega
theorem sz_whlS (s:RS):(whlS b s).1.size+4 * (whlS b s).2.len≤2+4 * s.len:=by
 have h1:=sz_cond s
 have h2:=hb (aft s).2
 simp only [whlS,agy,aal];omega
theorem sz_attS (s:RS):(attS b s).1.size+4 * (attS b s).2.len≤2+4 * s.len:=by
 have h1:=hb s
 have h2:=aan (b s).2 acr
 have h3:=aan ((b s).2.need acr) aah
 have h4:=aaz (at1 b s)
 have h5:=abg (at2 b s)
 have h6:=aan (at2 b s).name aa6
 have e1:(at1 b s).len=(((b s).2.need acr).need aah).len:=rfl
 have e2:(at2 b s).len=(at1 b s).class.len:=rfl
 have e3:(at3 b s).len=((at2 b s).name.need aa6).len:=rfl
 have h7:=hb (at3 b s)
 have h8:=aaf (b (at3 b s)).2
 have h9:=hb (b (at3 b s)).2.skip
 unfold attS
 split
 ·simp only [agy,aal];omega
 ·simp only [agy,aal];omega
end
theorem sz_resS (s:RS):(resS s).1.size+4 * (resS s).2.len≤2+4 * s.len:=by
 have h1:=sz_finE s
 have h2:=aaf s
 unfold resS
 split
 ·simp only [agy,aal];omega
 ·simp only [agy,aal];omega
theorem sz_supS (s:RS) (h:1≤s.len):(supS s).1.size+4 * (supS s).2.len≤4 * s.len:=by
 have h1:=sz_ar s.skip
 have h2:=aaf s
 have h3:=len_ar s.skip
 have h4:=aan (ar s.skip).2 abx
 simp only [supS,agy,aal];omega
theorem sz_plaS (s:RS) (h:1≤s.len):(plaS s).1.size+4 * (plaS s).2.len≤4 * s.len:=by
 have h1:=sz_ex s
 have h2:=ai1 s
 have h3:=aaf (ex s).2
 have h4:=sz_finE (ex s).2.skip
 have h5:=aan (ex s).2 abx
 unfold plaS
 split
 ·rename_i h;have hl:=ac3 h
  simp only [agy,aal];omega
 ·simp only [agy,ab1,aal];omega
theorem sz_varS (s:RS) (h:1≤s.len):(varS s).1.size+4 * (varS s).2.len≤4 * s.len:=by
 have h2:=ajy s
 have h3:=abg s.typ
 have h4:=aan s.typ.name sEq
 have h5:=sz_finE (s.typ.name.need sEq)
 have e1:(varS s).1.size=1+aal (af3 (s.typ.name.need sEq)).1:=by simp only [varS,valE,agy,aal];omega
 have e2:(varS s).2.len=(af3 (s.typ.name.need sEq)).2.len:=rfl
 omega
theorem sz_fine (k n:Int) (s:RS):(mkS k n E0 E0 (af3 s).1 [] [] []).size+4 * (af3 s).2.len≤2+4 * s.len:=by
 have h1:=sz_finE s
 simp only [agy,aal];omega
theorem sz_stS {b:Rb} (hb:Sz4 b) (s:RS) (h:1≤s.len):(stS b s).1.size+4 * (stS b s).2.len≤4 * s.len:=by
 have k:=aaf s
 have h1:=sz_varS s h
 have h2:=sz_choS hb s.skip
 have h3:=sz_whlS hb s.skip
 have h4:=sz_resS s.skip
 have h5:=sz_fine 7 0 s.skip
 have h6:=sz_fine 8 (s.skip.numR 9999) (s.skip.num 9999)
 have h7:=sz_fine 9 0 s.skip
 have h8:=sz_attS hb s.skip
 have h9:=sz_supS s h
 have h10:=sz_plaS s h
 have h11:=len_num s.skip 9999
 unfold stS
 split
 ·exact h1
 split
 ·omega
 split
 ·omega
 split
 ·omega
 split
 ·show (mkS 7 0 E0 E0 (af3 s.skip).1 [] [] []).size+4 * (af3 s.skip).2.len≤_;omega
 split
 ·show (mkS 8 (s.skip.numR 9999) E0 E0 (af3 (s.skip.num 9999)).1 [] [] []).size+4 * (af3 (s.skip.num 9999)).2.len≤_;omega
 split
 ·show (mkS 9 0 E0 E0 (af3 s.skip).1 [] [] []).size+4 * (af3 s.skip).2.len≤_;omega
 split
 ·omega
 split
 ·split
  ·exact h9
  ·exact h10
 ·exact h10
theorem until_len {s:RS} {p:ByteArray} (h:s.until p=true):1≤s.len:=by
 cases hw:s.ws with
 | nil=>simp [RS.until,hw] at h
 | cons x l=>simp [RS.len,hw]
def Ms.ext:Ms→Nat
 | .body _=>0|.loop _ l=>aal l
theorem runS_size:∀ (n:Nat) (m:Ms) (s:RS),aal (ae5 n m s).1+4 * (ae5 n m s).2.len≤4 * s.len+m.ext:=by
 intro n
 induction n with
 | zero=>intro m s;simp only [ae5,aal];omega
 | succ n ih =>
  intro m s
  cases m with
  | body c =>
   have h1:=aa4 s aip
   have h2:=ih (.loop c []) (s.enter aip)
   have h3:=agi (ae5 n (.loop c []) (s.enter aip)).2 ahw
   simp only [ae5,Ms.ext,aal] at h2 ⊢
   omega
  | loop c l =>
   simp only [ae5]
   split
   ·rename_i hu
    have h0:=sz_stS (b:=ae5 n (.body false)) (fun s=>by have:=ih (.body false) s;simpa [Ms.ext] using this) s (until_len hu)
    refine Nat.le_trans (ih _ _) ?_
    simp only [Ms.ext,ab2,ab1]
    split
    ·omega
    ·rw [akj];omega
   ·simp only [Ms.ext];omega
theorem sz_bd (c:Bool) (s:RS):aal (bd c s).1+4 * (bd c s).2.len≤4 * s.len:=by have:=runS_size (4 * s.len+3) (.body c) s;simpa [Ms.ext,bd] using this
theorem sz_metM (st:Bool) (ty nm:ByteArray) (s:RS):(metM st ty nm s).1.size+4 * (metM st ty nm s).2.len≤1+4 * s.len:=by
 have h1:=aki s
 have h2:=sz_bd false (parP s).2
 simp only [metM,mkM,Nd.size];omega
theorem sz_fldM (st:Bool) (ty nm:ByteArray) (s:RS):(fldM st ty nm s).1.size+4 * (fldM st ty nm s).2.len≤2+4 * s.len:=by
 have h1:=aaf s
 have h2:=sz_ex s.skip
 have h3:=aan (ex s.skip).2 abx
 have h4:=aan s abx
 have h5:=ai1 s.skip
 unfold fldM;split
 ·simp only [mkF,Nd.size,ab1];omega
 ·simp only [mkF,Nd.size,aal];omega
theorem sz_ctoM (s:RS) (h:1≤s.len):(ctoM s).1.size+4 * (ctoM s).2.len≤4 * s.len:=by
 have h1:=aaf s
 have h2:=aki s.skip
 have h3:=sz_bd true (parP s.skip).2
 simp only [ctoM,mkM,Nd.size];omega
theorem sz_memM (own:ByteArray) (s:RS) (h:1≤s.len):(af0 own s).1.size+4 * (af0 own s).2.len≤4 * s.len:=by
 have h0:=len_take s aad
 have hs:=aaf s
 have h2:=aaf (s.take aad)
 have h3:=abg (s.take aad).skip
 have h4:=sz_metM (s.sees 0 aad) adr (s.take aad).skip.nameV (s.take aad).skip.name
 have h5:=ajy (s.take aad)
 have h6:=abg (s.take aad).typ
 have h7:=sz_metM (s.sees 0 aad) (s.take aad).typV (s.take aad).typ.nameV (s.take aad).typ.name
 have h8:=sz_fldM (s.sees 0 aad) (s.take aad).typV (s.take aad).typ.nameV (s.take aad).typ.name
 have h9:s.sees 0 aad=false→s.take aad=s:=by intro g;simp [RS.take,g]
 unfold af0
 split
 ·rename_i g
  rw [h9 g.1];exact sz_ctoM s h
 split
 ·rename_i g;have:=ac3 g;omega
 split
 ·omega
 ·omega
theorem sz_loopC:∀ (n:Nat) (own:ByteArray) (f g:List Nd) (s:RS),aal (ad6 n own f g s).1.1+aal (ad6 n own f g s).1.2+4 * (ad6 n own f g s).2.len≤4 * s.len+aal f+aal g:=by
 intro n
 induction n with
 | zero=>intro own f g s;simp only [ad6];omega
 | succ n ih =>
  intro own f g s
  simp only [ad6]
  split
  ·rename_i hu
   have h0:=sz_memM own s (until_len hu)
   split
   ·refine Nat.le_trans (ih _ _ _ _) ?_
    simp only [ab2,ab1];omega
   ·refine Nat.le_trans (ih _ _ _ _) ?_
    simp only [ab2,ab1];omega
  ·simp only;omega
theorem sz_clsC (s:RS) (h:1≤s.len):(clsC s).1.size+4 * (clsC s).2.len≤4 * s.len:=by
 have h1:=len_kl3 s
 have h2:aal (clB s).1.1+aal (clB s).1.2+4 * (clB s).2.len≤4 * (kl3 s).len:=by
  have:=sz_loopC ((kl3 s).len+1) (s.need ack).classV [] [] (kl3 s)
  simpa [clB,aal] using this
 have h3:=aan (clB s).2 ahw
 simp only [clsC,Nd.size];omega
theorem sz_loopG:∀ (n:Nat) (l:List Nd) (s:RS),aal (ai0 n l s).1+4 * (ai0 n l s).2.len≤4 * s.len+aal l:=by
 intro n
 induction n with
 | zero=>intro l s;simp only [ai0];omega
 | succ n ih =>
  intro l s
  simp only [ai0]
  split
  ·show aal l+4 * s.len≤_;omega
  ·rename_i hu
   have hl:1≤s.len:=by
    cases hw:s.ws with
    | nil=>simp [hw] at hu
    | cons x l=>simp [RS.len,hw]
   have h0:=sz_clsC s hl
   refine Nat.le_trans (ih _ _) ?_
   simp only [ab2,ab1];omega
theorem prg_size (s:RS):aal (prg s).1≤4 * s.len:=by
 have:=sz_loopG (s.len+1) [] s
 simp only [aal] at this
 show aal (ai0 (s.len+1) [] s).1≤_
 omega
end
end Go.Proofs.YtddnnohfbagbnaaGreatDoor
