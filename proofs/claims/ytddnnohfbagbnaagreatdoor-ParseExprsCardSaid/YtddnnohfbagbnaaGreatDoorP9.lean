/- Parts of the proof: StA, StB, StC, StD, StE, Qb, Qe. -/
import Derived.Test.YtddnnohfbagbnaaGreatDoorHi
import Derived.Test.YtddnnohfbagbnaaGreatDoorP8
import Derived.Test.YtddnnohfbagbnaaGreatDoorP2
import Derived.Deep.RegionWith
set_option maxHeartbeats 4000000
set_option maxRecDepth 100000
namespace Go.Proofs.YtddnnohfbagbnaaGreatDoor
set_option linter.unusedSimpArgs false
set_option linter.unusedVariables false
section
open Go.RowKit
theorem aj0 (HE:abw) (W0 w:World) (c:Nat) (s:RS) (hv:Vars W0) (h:Rd W0 c s w):Calls Tryz.prog 202 #[.pointer (some ⟨c,0,none⟩)] w (LsC W0 c w (af3 s)):=by
 obtain ⟨q,hq⟩:∃ q,ex (s)=q:=⟨_,rfl⟩
 have HRE:Hid (af3 s=([hdE q.1],q.2.need abx)):=ke (by simp only [af3,hq])
 obtain ⟨RR,hRR⟩:∃ RR,af3 s=RR:=⟨_,rfl⟩
 rw [hRR] at HRE ⊢
 have hlt:=h.lt
 have hle0:=h.le
 have HX:Hid (∀ w',Rd W0 c (s) w'→Calls Tryz.prog 31 #[.pointer (some ⟨c,0,none⟩)] w' (ExC W0 c w' q)):=by
  show ∀ w',_
  intro w' h';have:=HE W0 w' c _ hv h';rw [hq] at this;exact this
 have HN:Hid (∀ w',Rd W0 c (q.2) w'→Calls Tryz.prog 71 #[.pointer (some ⟨c,0,none⟩),.string abx] w' fun e w''=>e=.returned (.tuple #[])∧Mv W0 c (RS.need (q.2) abx) w' w''):=by
  show ∀ w',_
  intro w' h';exact abd W0 w' c _ abx h'
 have HM:=ke (Mv.refl h)
 clear hq hRR h hv HE
 go_enter Tryz.func202,Tryz.ntmps202
 go_wp2_with fail
 refine (HX.out _ HM.out.2).mono ?_
 clear HX
 rintro e w2 ⟨y,rfl,hk,hm⟩
 replace HM:=ke (HM.out.trans hm)
 have hs2:=hm.1.size
 have HK:=ke (hk.mono (show w.heap.size≤_ by omega))
 obtain ⟨k,m,tx,nm,ty,A,cap,l,rfl,_,_,_⟩:=hk
 clear hm
 obtain ⟨W3,hW3⟩:∃ W,w2.alloc (.cells #[.int .i64 k,.int .i32 m,.string tx,.string nm,.string ty,.slice A l.length cap,.string ⟨#[]⟩,.int .i64 0] 35)=W:=⟨_,rfl⟩
 have hb:Below w2.heap.size w2 W3:=by rw [← hW3];exact (Below.refl _ _).alloc (Nat.le_refl _) _
 have HL:Hid (Bx W3 w2.heap.size #[.int .i64 k,.int .i32 m,.string tx,.string nm,.string ty,.slice A l.length cap,.string ⟨#[]⟩,.int .i64 0] 35):=ke (by rw [← hW3];exact Bx.new _ _ _)
 replace HM:=ke (HM.out.trans (Mv.below hb HM.out.2))
 replace HK:=ke (HK.out.below hb)
 have hs3:=hb.size
 clear hb
 subst hW3
 simp only [aab]
 go_wp2_with fail
 refine (HN.out _ HM.out.2).mono ?_
 clear HN
 rintro e w4 ⟨rfl,hm⟩
 replace HM:=ke (HM.out.trans hm)
 replace HL:=ke (Bx.grown HL.out hm.1 (by omega))
 replace HK:=ke (HK.out.grown hm.1 (.inl hlt))
 have hs4:=hm.1.size
 clear hm
 obtain ⟨a0,a1,a2,a3,a4,a5,a6,a7⟩:=HL.out.all_8
 go_wp2_with fail
 go_ret
 have HY:=ke (OwnE.one HK.out (show w.heap.size≤w4.heap.size by omega))
 rw [HRE.out]
 exact ⟨_,_,rfl,HY.out,acp (ExK.nk HK.out).2.2,HM.out.trans (Mv.below ((Below.refl _ _).alloc (Nat.le_refl _) _) HM.out.2)⟩
theorem cond_of (HE:abw) (W0 w:World) (c:Nat) (s:RS) (hv:Vars W0) (h:Rd W0 c s w):Calls Tryz.prog 200 #[.pointer (some ⟨c,0,none⟩)] w (LsC W0 c w (aft s)):=by
 obtain ⟨q,hq⟩:∃ q,ex (s.need aah)=q:=⟨_,rfl⟩
 have HRE:Hid (aft s=([hdE q.1],q.2.need aa6)):=ke (by simp only [aft,hq])
 obtain ⟨RR,hRR⟩:∃ RR,aft s=RR:=⟨_,rfl⟩
 rw [hRR] at HRE ⊢
 have hlt:=h.lt
 have hle0:=h.le
 have HN0:Hid (∀ w',Rd W0 c (s) w'→Calls Tryz.prog 71 #[.pointer (some ⟨c,0,none⟩),.string aah] w' fun e w''=>e=.returned (.tuple #[])∧Mv W0 c (RS.need (s) aah) w' w''):=by
  show ∀ w',_
  intro w' h';exact abd W0 w' c _ aah h'
 have HX:Hid (∀ w',Rd W0 c (s.need aah) w'→Calls Tryz.prog 31 #[.pointer (some ⟨c,0,none⟩)] w' (ExC W0 c w' q)):=by
  show ∀ w',_
  intro w' h';have:=HE W0 w' c _ hv h';rw [hq] at this;exact this
 have HN:Hid (∀ w',Rd W0 c (q.2) w'→Calls Tryz.prog 71 #[.pointer (some ⟨c,0,none⟩),.string aa6] w' fun e w''=>e=.returned (.tuple #[])∧Mv W0 c (RS.need (q.2) aa6) w' w''):=by
  show ∀ w',_
  intro w' h';exact abd W0 w' c _ aa6 h'
 have HM:=ke (Mv.refl h)
 clear hq hRR h hv HE
 go_enter Tryz.func200,Tryz.ntmps200
 go_wp2_with fail
 refine (HN0.out _ HM.out.2).mono ?_
 clear HN0
 rintro e w1 ⟨rfl,hm⟩
 replace HM:=ke (HM.out.trans hm)
 have hs1:=hm.1.size
 clear hm
 go_wp2_with fail
 refine (HX.out _ HM.out.2).mono ?_
 clear HX
 rintro e w2 ⟨y,rfl,hk,hm⟩
 replace HM:=ke (HM.out.trans hm)
 have hs2:=hm.1.size
 have HK:=ke (hk.mono (show w.heap.size≤_ by omega))
 obtain ⟨k,m,tx,nm,ty,A,cap,l,rfl,_,_,_⟩:=hk
 clear hm
 obtain ⟨W3,hW3⟩:∃ W,w2.alloc (.cells #[.int .i64 k,.int .i32 m,.string tx,.string nm,.string ty,.slice A l.length cap,.string ⟨#[]⟩,.int .i64 0] 35)=W:=⟨_,rfl⟩
 have hb:Below w2.heap.size w2 W3:=by rw [← hW3];exact (Below.refl _ _).alloc (Nat.le_refl _) _
 have HL:Hid (Bx W3 w2.heap.size #[.int .i64 k,.int .i32 m,.string tx,.string nm,.string ty,.slice A l.length cap,.string ⟨#[]⟩,.int .i64 0] 35):=ke (by rw [← hW3];exact Bx.new _ _ _)
 replace HM:=ke (HM.out.trans (Mv.below hb HM.out.2))
 replace HK:=ke (HK.out.below hb)
 have hs3:=hb.size
 clear hb
 subst hW3
 simp only [aab]
 go_wp2_with fail
 refine (HN.out _ HM.out.2).mono ?_
 clear HN
 rintro e w4 ⟨rfl,hm⟩
 replace HM:=ke (HM.out.trans hm)
 replace HL:=ke (Bx.grown HL.out hm.1 (by omega))
 replace HK:=ke (HK.out.grown hm.1 (.inl hlt))
 have hs4:=hm.1.size
 clear hm
 obtain ⟨a0,a1,a2,a3,a4,a5,a6,a7⟩:=HL.out.all_8
 go_wp2_with fail
 go_ret
 have HY:=ke (OwnE.one HK.out (show w.heap.size≤w4.heap.size by omega))
 rw [HRE.out]
 exact ⟨_,_,rfl,HY.out,acp (ExK.nk HK.out).2.2,HM.out.trans (Mv.below ((Below.refl _ _).alloc (Nat.le_refl _) _) HM.out.2)⟩
theorem valE_of (HE:abw) (W0 w:World) (c:Nat) (s:RS) (hv:Vars W0) (h:Rd W0 c s w):Calls Tryz.prog 198 #[.pointer (some ⟨c,0,none⟩)] w (LsC W0 c w (valE s)):=by
 obtain ⟨q,hq⟩:∃ q,af3 (s.need sEq)=q:=⟨_,rfl⟩
 have HRE:Hid (valE s=q):=ke (by simp only [valE,hq])
 obtain ⟨RR,hRR⟩:∃ RR,valE s=RR:=⟨_,rfl⟩
 rw [hRR] at HRE ⊢
 have hlt:=h.lt
 have hle0:=h.le
 have HN:Hid (∀ w',Rd W0 c (s) w'→Calls Tryz.prog 71 #[.pointer (some ⟨c,0,none⟩),.string sEq] w' fun e w''=>e=.returned (.tuple #[])∧Mv W0 c (RS.need (s) sEq) w' w''):=by
  show ∀ w',_
  intro w' h';exact abd W0 w' c _ sEq h'
 have HX:Hid (∀ w',Rd W0 c (s.need sEq) w'→Calls Tryz.prog 202 #[.pointer (some ⟨c,0,none⟩)] w' (LsC W0 c w' q)):=by
  show ∀ w',_
  intro w' h';have:=aj0 HE W0 w' c _ hv h';rw [hq] at this;exact this
 have HM:=ke (Mv.refl h)
 clear hq hRR h hv HE
 go_enter Tryz.func198,Tryz.ntmps198
 go_wp2_with fail
 refine (HN.out _ HM.out.2).mono ?_
 clear HN
 rintro e w1 ⟨rfl,hm⟩
 replace HM:=ke (HM.out.trans hm)
 have hs1:=hm.1.size
 clear hm
 go_wp2_with fail
 refine (HX.out _ HM.out.2).mono ?_
 clear HX
 rintro e w2 ⟨v,ys,rfl,ho,hq,hm⟩
 have HY:=ke (ho.mono (show w.heap.size≤_ by omega))
 have HQ:=ke hq
 obtain ⟨A,cap,rfl⟩:=ho.form
 replace HM:=ke (HM.out.trans hm)
 clear ho hq hm
 go_wp2_with fail
 go_ret
 rw [HRE.out]
 exact ⟨_,ys,rfl,HY.out,HQ.out,HM.out⟩
end
section
open Go.RowKit
theorem len_at3' {b:Rb} (hb:∀ s,(b s).2.len≤s.len) (s:RS):(at3 b s).len≤s.len:=by
 have d1:=hb s
 have d2:=aan (b s).2 acr
 have d3:=aan ((b s).2.need acr) aah
 have d4:=aaz (at1 b s)
 have d5:=abg (at2 b s)
 have d6:=aan (at2 b s).name aa6
 have e1:(at1 b s).len=(((b s).2.need acr).need aah).len:=rfl
 have e2:(at2 b s).len=(at1 b s).class.len:=rfl
 show ((at2 b s).name.need aa6).len≤_
 omega
def agx (n:Nat) (b:Rb):Prop:=∀ (W0 w:World) (c:Nat) (s:RS),Vars W0→Rd W0 c s w→4 * s.len+3≤n→Calls Tryz.prog 162 #[.pointer (some ⟨c,0,none⟩)] w (BlC W0 c w (b s))
theorem choice_0 (HE:abw) (n:Nat) (b:Rb) (HBL:agx n b) (hbl:∀ s,(b s).2.len≤s.len) (W0 w:World) (c:Nat) (s:RS) (hv:Vars W0) (h:Rd W0 c s w) (hn:4 * s.len+3≤n) (hel:(b (aft s).2).2.sees 0 kElse=false):Calls Tryz.prog 199 #[.pointer (some ⟨c,0,none⟩)] w (StC W0 c w (choS b s)):=by
 obtain ⟨q,hq⟩:∃ q,aft s=q:=⟨_,rfl⟩
 rw [hq] at hel
 obtain ⟨a,ha⟩:∃ a,b q.2=a:=⟨_,rfl⟩
 rw [ha] at hel
 have hl1:q.2.len≤s.len - 1:=by rw [← hq];exact ah3 s
 have hl2:a.2.len≤q.2.len:=by rw [← ha];exact hbl _
 have HRE:Hid (choS b s=(mkS 4 0 E0 E0 q.1 a.1 [] [],a.2)):=ke (by simp only [choS,hq,ha,hel];simp)
 obtain ⟨RR,hRR⟩:∃ RR,choS b s=RR:=⟨_,rfl⟩
 rw [hRR] at HRE ⊢
 have hlt:=h.lt
 have hle0:=h.le
 obtain ⟨W1,hW1⟩:∃ W1,w.alloc (.cells #[.int .i64 0,.int .i32 0,.string ⟨#[]⟩,.string ⟨#[]⟩,.slice none 0 0,.slice none 0 0,.slice none 0 0,.slice none 0 0,.int .i64 0] 141)=W1:=⟨_,rfl⟩
 have hb:Below w.heap.size w W1:=by rw [← hW1];exact (Below.refl _ w).alloc (Nat.le_refl _) _
 have hx:Bx W1 w.heap.size #[.int .i64 0,.int .i32 0,.string ⟨#[]⟩,.string ⟨#[]⟩,.slice none 0 0,.slice none 0 0,.slice none 0 0,.slice none 0 0,.int .i64 0] 141:=by rw [← hW1];exact Bx.new _ _ _
 have hz:W1.heap.size=w.heap.size+1:=by rw [← hW1];simp
 have HM:=ke (Mv.below hb h)
 have HB:=ke hx
 clear hb hx
 have HC:Hid (∀ w',Rd W0 c (s) w'→Calls Tryz.prog 200 #[.pointer (some ⟨c,0,none⟩)] w' (LsC W0 c w' q)):=by
  show ∀ w',_
  intro w' h';have:=cond_of HE W0 w' c _ hv h';rw [hq] at this;exact this
 have HA:Hid (∀ w',Rd W0 c (q.2) w'→Calls Tryz.prog 162 #[.pointer (some ⟨c,0,none⟩)] w' (BlC W0 c w' a)):=by
  show ∀ w',_
  intro w' h';have:=HBL W0 w' c _ hv h' (by omega);rw [ha] at this;exact this
 have HT:Hid (∀ w',Rd W0 c a.2 w'→Calls Tryz.prog 73 #[.pointer (some ⟨c,0,none⟩),.string kElse] w' fun e w''=>e=.returned (.bool false)∧w'=w''):=by
  show ∀ w',_
  intro w' h';exact aaa W0 w' c _ _ h' hel
 clear hRR hq ha hl1 hl2 h hv hn hel HE HBL hbl
 go_enter Tryz.func199,Tryz.ntmps199
 go_wp2_with fail
 refine (HC.out _ HM.out.2).mono ?_
 clear HC hW1
 rintro e w2 ⟨v1,ys1,rfl,ho,hq1,hm⟩
 obtain ⟨A1,c1,rfl⟩:=ho.form
 have hf1:=(FkL.x ho.own.fk).mono (show w.heap.size+1≤_ by omega)
 have HQ1:=ke hq1
 clear ho hq1
 replace HM:=ke (HM.out.trans hm)
 replace HB:=ke (Bx.grown HB.out hm.1 (by omega))
 have hs2:=hm.1.size
 clear hm
 have HF1:=ke hf1
 clear hf1
 go_wp2_with fail
 refine (HA.out _ HM.out.2).mono ?_
 clear HA
 rintro e w3 ⟨v2,ys2,rfl,ho,hq2,hm⟩
 obtain ⟨A2,c2,rfl⟩:=agz ho
 have hf2:=(FkL.x ho).mono (show w.heap.size+1≤_ by omega)
 have HQ2:=ke hq2
 clear ho hq2
 replace HM:=ke (HM.out.trans hm)
 replace HB:=ke (Bx.grown HB.out hm.1 (by omega))
 replace HF1:=ke (HF1.out.grown hm.1 (.inl (by omega)))
 have hs3:=hm.1.size
 clear hm
 have HF2:=ke hf2
 clear hf2
 obtain ⟨W4,hW4⟩:∃ W,w3.alloc (.cells #[.int .i64 4,.int .i32 0,.string ⟨#[]⟩,.string ⟨#[]⟩,.slice A1 ys1.length c1,.slice A2 ys2.length c2,.slice none 0 0,.slice none 0 0,.int .i64 0] 141)=W:=⟨_,rfl⟩
 have hb:Below w3.heap.size w3 W4:=by rw [← hW4];exact (Below.refl _ _).alloc (Nat.le_refl _) _
 have HL:Hid (Bx W4 w3.heap.size #[.int .i64 4,.int .i32 0,.string ⟨#[]⟩,.string ⟨#[]⟩,.slice A1 ys1.length c1,.slice A2 ys2.length c2,.slice none 0 0,.slice none 0 0,.int .i64 0] 141):=ke (by rw [← hW4];exact Bx.new _ _ _)
 have hz3:W4.heap.size=w3.heap.size+1:=by rw [← hW4];simp
 replace HM:=ke (HM.out.trans (Mv.below hb HM.out.2))
 replace HB:=ke (HB.out.next hb)
 replace HF1:=ke (HF1.out.excl hb (Nat.le_refl _))
 replace HF2:=ke (HF2.out.excl hb (Nat.le_refl _))
 clear hb
 subst hW4
 go_wp2_with fail
 refine (HT.out _ HM.out.2).mono ?_
 clear HT
 rintro e w5 ⟨rfl,rfl⟩
 obtain ⟨r0,r1,r2,r3,r4,r5,r6,r7,r8⟩:=HB.out.all_9
 have g0:=HB.out.fro 0;have g1:=HB.out.fro 1;have g2:=HB.out.fro 2;have g3:=HB.out.fro 3;have g4:=HB.out.fro 4;have g5:=HB.out.fro 5;have g6:=HB.out.fro 6;have g7:=HB.out.fro 7;have g8:=HB.out.fro 8
 obtain ⟨x0,x1,x2,x3,x4,x5,x6,x7,x8⟩:=HL.out.all_9
 have HG:=ke (acl (w3.alloc (.cells #[.int .i64 4,.int .i32 0,.string ⟨#[]⟩,.string ⟨#[]⟩,.slice A1 ys1.length c1,.slice A2 ys2.length c2,.slice none 0 0,.slice none 0 0,.int .i64 0] 141)) w.heap.size (.int .i64 4) (.int .i32 0) (.string ⟨#[]⟩) (.string ⟨#[]⟩) (.slice A1 ys1.length c1) (.slice A2 ys2.length c2) (.slice none 0 0) (.slice none 0 0) (.int .i64 0))
 go_wp2_with fail
 obtain ⟨z0,z1,z2,z3,z4,z5,z6,z7,z8⟩:=(HB.out.to_9 (.int .i64 4) (.int .i32 0) (.string ⟨#[]⟩) (.string ⟨#[]⟩) (.slice A1 ys1.length c1) (.slice A2 ys2.length c2) (.slice none 0 0) (.slice none 0 0) (.int .i64 0)).all_9
 (try simp only [Exit.inBlock,Exit.then])
 refine bodyPost_ret (v:=.agg #[.int .i64 4,.int .i32 0,.string ⟨#[]⟩,.string ⟨#[]⟩,.slice A1 ys1.length c1,.slice A2 ys2.length c2,.slice none 0 0,.slice none 0 0,.int .i64 0]) (by simp [results,Tryz.results199,go_sem,z0,z1,z2,z3,z4,z5,z6,z7,z8]) rfl ?_
 rw [HRE.out]
 refine ⟨.st (4) (0) ⟨#[]⟩ ⟨#[]⟩ (.slice A1 ys1.length c1) (.slice A2 ys2.length c2) (.slice none 0 0) (.slice none 0 0) ys1 ys2 [] [] 0,rfl,⟨_,_,_,_,A1,A2,none,none,c1,c2,0,0,ys1,ys2,[],[],rfl⟩,?_,Mv.over (Below.refl _ _) HM.out HG.out (Nat.le_refl _) hlt⟩
 exact ((ad8 (B:=w.heap.size+1) ⟨Nat.zero_le _,Nat.zero_le _⟩ HF1.out.fk HF2.out.fk (FkL.nil _ _ _) (FkL.nil _ _ _) HQ1.out HQ2.out rfl rfl).grown HG.out (.inl (by omega))).mono (by omega)
theorem choice_1 (HE:abw) (n:Nat) (b:Rb) (HBL:agx n b) (hbl:∀ s,(b s).2.len≤s.len) (W0 w:World) (c:Nat) (s:RS) (hv:Vars W0) (h:Rd W0 c s w) (hn:4 * s.len+3≤n) (hel:(b (aft s).2).2.sees 0 kElse=true):Calls Tryz.prog 199 #[.pointer (some ⟨c,0,none⟩)] w (StC W0 c w (choS b s)):=by
 obtain ⟨q,hq⟩:∃ q,aft s=q:=⟨_,rfl⟩
 rw [hq] at hel
 obtain ⟨a,ha⟩:∃ a,b q.2=a:=⟨_,rfl⟩
 rw [ha] at hel
 have hl1:q.2.len≤s.len - 1:=by rw [← hq];exact ah3 s
 have hl2:a.2.len≤q.2.len:=by rw [← ha];exact hbl _
 obtain ⟨d,hd⟩:∃ d,b a.2.skip=d:=⟨_,rfl⟩
 have hl3:=aaf a.2
 have HRE:Hid (choS b s=(mkS 4 0 E0 E0 q.1 a.1 d.1 [],d.2)):=ke (by simp only [choS,hq,ha,hel,hd,if_true])
 obtain ⟨RR,hRR⟩:∃ RR,choS b s=RR:=⟨_,rfl⟩
 rw [hRR] at HRE ⊢
 have hlt:=h.lt
 have hle0:=h.le
 obtain ⟨W1,hW1⟩:∃ W1,w.alloc (.cells #[.int .i64 0,.int .i32 0,.string ⟨#[]⟩,.string ⟨#[]⟩,.slice none 0 0,.slice none 0 0,.slice none 0 0,.slice none 0 0,.int .i64 0] 141)=W1:=⟨_,rfl⟩
 have hb:Below w.heap.size w W1:=by rw [← hW1];exact (Below.refl _ w).alloc (Nat.le_refl _) _
 have hx:Bx W1 w.heap.size #[.int .i64 0,.int .i32 0,.string ⟨#[]⟩,.string ⟨#[]⟩,.slice none 0 0,.slice none 0 0,.slice none 0 0,.slice none 0 0,.int .i64 0] 141:=by rw [← hW1];exact Bx.new _ _ _
 have hz:W1.heap.size=w.heap.size+1:=by rw [← hW1];simp
 have HM:=ke (Mv.below hb h)
 have HB:=ke hx
 clear hb hx
 have HC:Hid (∀ w',Rd W0 c (s) w'→Calls Tryz.prog 200 #[.pointer (some ⟨c,0,none⟩)] w' (LsC W0 c w' q)):=by
  show ∀ w',_
  intro w' h';have:=cond_of HE W0 w' c _ hv h';rw [hq] at this;exact this
 have HA:Hid (∀ w',Rd W0 c (q.2) w'→Calls Tryz.prog 162 #[.pointer (some ⟨c,0,none⟩)] w' (BlC W0 c w' a)):=by
  show ∀ w',_
  intro w' h';have:=HBL W0 w' c _ hv h' (by omega);rw [ha] at this;exact this
 have HD:Hid (∀ w',Rd W0 c (a.2.skip) w'→Calls Tryz.prog 162 #[.pointer (some ⟨c,0,none⟩)] w' (BlC W0 c w' d)):=by
  show ∀ w',_
  intro w' h';have:=HBL W0 w' c _ hv h' (by omega);rw [hd] at this;exact this
 have HT:Hid (∀ w',Rd W0 c a.2 w'→Calls Tryz.prog 73 #[.pointer (some ⟨c,0,none⟩),.string kElse] w' fun e w''=>e=.returned (.bool true)∧Mv W0 c a.2.skip w' w''):=by
  show ∀ w',_
  intro w' h';exact aa3 W0 w' c _ _ h' hel
 clear hRR hq ha hl1 hl2 h hv hn hel HE HBL hbl hd hl3
 go_enter Tryz.func199,Tryz.ntmps199
 go_wp2_with fail
 refine (HC.out _ HM.out.2).mono ?_
 clear HC hW1
 rintro e w2 ⟨v1,ys1,rfl,ho,hq1,hm⟩
 obtain ⟨A1,c1,rfl⟩:=ho.form
 have hf1:=(FkL.x ho.own.fk).mono (show w.heap.size+1≤_ by omega)
 have HQ1:=ke hq1
 clear ho hq1
 replace HM:=ke (HM.out.trans hm)
 replace HB:=ke (Bx.grown HB.out hm.1 (by omega))
 have hs2:=hm.1.size
 clear hm
 have HF1:=ke hf1
 clear hf1
 go_wp2_with fail
 refine (HA.out _ HM.out.2).mono ?_
 clear HA
 rintro e w3 ⟨v2,ys2,rfl,ho,hq2,hm⟩
 obtain ⟨A2,c2,rfl⟩:=agz ho
 have hf2:=(FkL.x ho).mono (show w.heap.size+1≤_ by omega)
 have HQ2:=ke hq2
 clear ho hq2
 replace HM:=ke (HM.out.trans hm)
 replace HB:=ke (Bx.grown HB.out hm.1 (by omega))
 replace HF1:=ke (HF1.out.grown hm.1 (.inl (by omega)))
 have hs3:=hm.1.size
 clear hm
 have HF2:=ke hf2
 clear hf2
 obtain ⟨W4,hW4⟩:∃ W,w3.alloc (.cells #[.int .i64 4,.int .i32 0,.string ⟨#[]⟩,.string ⟨#[]⟩,.slice A1 ys1.length c1,.slice A2 ys2.length c2,.slice none 0 0,.slice none 0 0,.int .i64 0] 141)=W:=⟨_,rfl⟩
 have hb:Below w3.heap.size w3 W4:=by rw [← hW4];exact (Below.refl _ _).alloc (Nat.le_refl _) _
 have HL:Hid (Bx W4 w3.heap.size #[.int .i64 4,.int .i32 0,.string ⟨#[]⟩,.string ⟨#[]⟩,.slice A1 ys1.length c1,.slice A2 ys2.length c2,.slice none 0 0,.slice none 0 0,.int .i64 0] 141):=ke (by rw [← hW4];exact Bx.new _ _ _)
 have hz3:W4.heap.size=w3.heap.size+1:=by rw [← hW4];simp
 replace HM:=ke (HM.out.trans (Mv.below hb HM.out.2))
 replace HB:=ke (HB.out.next hb)
 replace HF1:=ke (HF1.out.excl hb (Nat.le_refl _))
 replace HF2:=ke (HF2.out.excl hb (Nat.le_refl _))
 clear hb
 subst hW4
 go_wp2_with fail
 refine (HT.out _ HM.out.2).mono ?_
 clear HT
 rintro e w4 ⟨rfl,hm⟩
 replace HM:=ke (HM.out.trans hm)
 replace HB:=ke (Bx.grown HB.out hm.1 (by omega))
 replace HL:=ke (Bx.grown HL.out hm.1 (by omega))
 replace HF1:=ke (HF1.out.grown hm.1 (.inl (by omega)))
 replace HF2:=ke (HF2.out.grown hm.1 (.inl (by omega)))
 have hs4:=hm.1.size
 clear hm
 go_wp2_with fail
 refine (HD.out _ HM.out.2).mono ?_
 clear HD
 rintro e w5 ⟨v3,ys3,rfl,ho,hq3,hm⟩
 obtain ⟨A3,c3,rfl⟩:=agz ho
 have hf3:=FkL.past ho (show w3.heap.size < _ by omega) (show w.heap.size+1≤_ by omega)
 have HQ3:=ke hq3
 clear ho hq3
 replace HM:=ke (HM.out.trans hm)
 replace HB:=ke (Bx.grown HB.out hm.1 (by omega))
 replace HL:=ke (Bx.grown HL.out hm.1 (by omega))
 replace HF1:=ke (HF1.out.grown hm.1 (.inl (by omega)))
 replace HF2:=ke (HF2.out.grown hm.1 (.inl (by omega)))
 have hs5:=hm.1.size
 clear hm
 have HF3:=ke hf3
 clear hf3
 obtain ⟨W6,hW6⟩:∃ W,w5.setCell ⟨w3.heap.size,6,none⟩ (.slice A3 ys3.length c3)=W:=⟨_,rfl⟩
 have hg:w5.grownBy W6 (some w3.heap.size):=by rw [← hW6];exact aac _ _ _ _
 have hl2:Bx W6 w3.heap.size #[.int .i64 4,.int .i32 0,.string ⟨#[]⟩,.string ⟨#[]⟩,.slice A1 ys1.length c1,.slice A2 ys2.length c2,.slice A3 ys3.length c3,.slice none 0 0,.int .i64 0] 141:=by
  rw [← hW6]
  have:=HL.out.set 6 (.slice A3 ys3.length c3)
  simpa using this
 obtain ⟨xs60,xs61,xs62,xs63,xs64,xs65,xs66,xs67,xs68⟩:=HL.out.all_9
 have gxs66:=HL.out.fro 6
 replace HM:=ke (Mv.over (Below.refl _ _) HM.out hg (by omega) hlt)
 replace HB:=ke (Bx.grown HB.out hg (by omega))
 replace HF1:=ke (HF1.out.grown hg (.inr rfl))
 replace HF2:=ke (HF2.out.grown hg (.inr rfl))
 replace HF3:=ke (HF3.out.grown hg (.inr rfl))
 replace HL:=ke hl2
 have hs5x:=hg.size
 clear hl2 hg
 obtain ⟨r0,r1,r2,r3,r4,r5,r6,r7,r8⟩:=HB.out.all_9
 have g0:=HB.out.fro 0;have g1:=HB.out.fro 1;have g2:=HB.out.fro 2;have g3:=HB.out.fro 3;have g4:=HB.out.fro 4;have g5:=HB.out.fro 5;have g6:=HB.out.fro 6;have g7:=HB.out.fro 7;have g8:=HB.out.fro 8
 obtain ⟨x0,x1,x2,x3,x4,x5,x6,x7,x8⟩:=HL.out.all_9
 have HG:=ke (acl W6 w.heap.size (.int .i64 4) (.int .i32 0) (.string ⟨#[]⟩) (.string ⟨#[]⟩) (.slice A1 ys1.length c1) (.slice A2 ys2.length c2) (.slice A3 ys3.length c3) (.slice none 0 0) (.int .i64 0))
 go_wp2_with fail
 obtain ⟨z0,z1,z2,z3,z4,z5,z6,z7,z8⟩:=(HB.out.to_9 (.int .i64 4) (.int .i32 0) (.string ⟨#[]⟩) (.string ⟨#[]⟩) (.slice A1 ys1.length c1) (.slice A2 ys2.length c2) (.slice A3 ys3.length c3) (.slice none 0 0) (.int .i64 0)).all_9
 (try simp only [Exit.inBlock,Exit.then])
 refine bodyPost_ret (v:=.agg #[.int .i64 4,.int .i32 0,.string ⟨#[]⟩,.string ⟨#[]⟩,.slice A1 ys1.length c1,.slice A2 ys2.length c2,.slice A3 ys3.length c3,.slice none 0 0,.int .i64 0]) (by simp [results,Tryz.results199,go_sem,z0,z1,z2,z3,z4,z5,z6,z7,z8]) rfl ?_
 rw [HRE.out]
 refine ⟨.st (4) (0) ⟨#[]⟩ ⟨#[]⟩ (.slice A1 ys1.length c1) (.slice A2 ys2.length c2) (.slice A3 ys3.length c3) (.slice none 0 0) ys1 ys2 ys3 [] 0,rfl,⟨_,_,_,_,A1,A2,A3,none,c1,c2,c3,0,ys1,ys2,ys3,[],rfl⟩,?_,Mv.over (Below.refl _ _) HM.out HG.out (Nat.le_refl _) hlt⟩
 exact ((ad8 (B:=w.heap.size+1) ⟨Nat.zero_le _,Nat.zero_le _⟩ HF1.out.fk HF2.out.fk HF3.out.fk (FkL.nil _ _ _) HQ1.out HQ2.out HQ3.out rfl).grown HG.out (.inl (by omega))).mono (by omega)
theorem choice_of (HE:abw) (n:Nat) (b:Rb) (HBL:agx n b) (hbl:∀ s,(b s).2.len≤s.len) (W0 w:World) (c:Nat) (s:RS) (hv:Vars W0) (h:Rd W0 c s w) (hn:4 * s.len+3≤n):Calls Tryz.prog 199 #[.pointer (some ⟨c,0,none⟩)] w (StC W0 c w (choS b s)):=by
 cases hel:(b (aft s).2).2.sees 0 kElse with
 | false=>exact choice_0 HE n b HBL hbl W0 w c s hv h hn hel
 | true=>exact choice_1 HE n b HBL hbl W0 w c s hv h hn hel
theorem result_0 (HE:abw) (W0 w:World) (c:Nat) (s:RS) (hv:Vars W0) (h:Rd W0 c s w) (hel:s.sees 0 abx=false):Calls Tryz.prog 201 #[.pointer (some ⟨c,0,none⟩)] w (StC W0 c w (resS s)):=by
 obtain ⟨q,hq⟩:∃ q,af3 s=q:=⟨_,rfl⟩
 have HRE:Hid (resS s=(mkS 6 0 E0 E0 q.1 [] [] [],q.2)):=ke (by simp only [resS,hel,hq];simp)
 obtain ⟨RR,hRR⟩:∃ RR,resS s=RR:=⟨_,rfl⟩
 rw [hRR] at HRE ⊢
 have hlt:=h.lt
 have hle0:=h.le
 obtain ⟨W1,hW1⟩:∃ W1,w.alloc (.cells #[.int .i64 0,.int .i32 0,.string ⟨#[]⟩,.string ⟨#[]⟩,.slice none 0 0,.slice none 0 0,.slice none 0 0,.slice none 0 0,.int .i64 0] 141)=W1:=⟨_,rfl⟩
 have hb:Below w.heap.size w W1:=by rw [← hW1];exact (Below.refl _ w).alloc (Nat.le_refl _) _
 have hx:Bx W1 w.heap.size #[.int .i64 0,.int .i32 0,.string ⟨#[]⟩,.string ⟨#[]⟩,.slice none 0 0,.slice none 0 0,.slice none 0 0,.slice none 0 0,.int .i64 0] 141:=by rw [← hW1];exact Bx.new _ _ _
 have hz:W1.heap.size=w.heap.size+1:=by rw [← hW1];simp
 have HM:=ke (Mv.below hb h)
 have HB:=ke hx
 clear hb hx
 have HC:Hid (∀ w',Rd W0 c (s) w'→Calls Tryz.prog 202 #[.pointer (some ⟨c,0,none⟩)] w' (LsC W0 c w' q)):=by
  show ∀ w',_
  intro w' h';have:=aj0 HE W0 w' c _ hv h';rw [hq] at this;exact this
 have HT:Hid (∀ w',Rd W0 c s w'→Calls Tryz.prog 73 #[.pointer (some ⟨c,0,none⟩),.string abx] w' fun e w''=>e=.returned (.bool false)∧w'=w''):=by
  show ∀ w',_
  intro w' h';exact aaa W0 w' c _ _ h' hel
 obtain ⟨W2,hW2⟩:∃ W,W1.alloc (.cells #[.int .i64 6,.int .i32 0,.string ⟨#[]⟩,.string ⟨#[]⟩,.slice none 0 0,.slice none 0 0,.slice none 0 0,.slice none 0 0,.int .i64 0] 141)=W:=⟨_,rfl⟩
 have hb:Below W1.heap.size W1 W2:=by rw [← hW2];exact (Below.refl _ _).alloc (Nat.le_refl _) _
 have HL:Hid (Bx W2 (w.heap.size+1) #[.int .i64 6,.int .i32 0,.string ⟨#[]⟩,.string ⟨#[]⟩,.slice none 0 0,.slice none 0 0,.slice none 0 0,.slice none 0 0,.int .i64 0] 141):=ke (by rw [← hW2,← hz];exact Bx.new _ _ _)
 have hz2:W2.heap.size=w.heap.size+1+1:=by rw [← hW2];simp [hz]
 replace HM:=ke (HM.out.trans (Mv.below hb HM.out.2))
 replace HB:=ke (HB.out.next hb)
 clear hb
 subst hW2
 clear hRR hq h hv hel HE
 go_enter Tryz.func201,Tryz.ntmps201
 go_wp2_with fail
 refine (HT.out _ HM.out.2).mono ?_
 clear HT hW1
 rintro e w2 ⟨rfl,rfl⟩
 go_wp2_with fail
 refine (HC.out _ HM.out.2).mono ?_
 clear HC
 rintro e w3 ⟨v1,ys1,rfl,ho,hq1,hm⟩
 obtain ⟨A1,c1,rfl⟩:=ho.form
 have hf1:=FkL.past ho.own.fk (show (w.heap.size+1) < _ by omega) (show w.heap.size+1≤_ by omega)
 have HQ1:=ke hq1
 clear ho hq1
 replace HM:=ke (HM.out.trans hm)
 replace HB:=ke (Bx.grown HB.out hm.1 (by omega))
 replace HL:=ke (Bx.grown HL.out hm.1 (by omega))
 have hs3:=hm.1.size
 clear hm
 have HF1:=ke hf1
 clear hf1
 obtain ⟨W4,hW4⟩:∃ W,w3.setCell ⟨(w.heap.size+1),4,none⟩ (.slice A1 ys1.length c1)=W:=⟨_,rfl⟩
 have hg:w3.grownBy W4 (some (w.heap.size+1)):=by rw [← hW4];exact aac _ _ _ _
 have hl2:Bx W4 (w.heap.size+1) #[.int .i64 6,.int .i32 0,.string ⟨#[]⟩,.string ⟨#[]⟩,.slice A1 ys1.length c1,.slice none 0 0,.slice none 0 0,.slice none 0 0,.int .i64 0] 141:=by
  rw [← hW4]
  have:=HL.out.set 4 (.slice A1 ys1.length c1)
  simpa using this
 obtain ⟨xs40,xs41,xs42,xs43,xs44,xs45,xs46,xs47,xs48⟩:=HL.out.all_9
 have gxs44:=HL.out.fro 4
 replace HM:=ke (Mv.over (Below.refl _ _) HM.out hg (by omega) hlt)
 replace HB:=ke (Bx.grown HB.out hg (by omega))
 replace HF1:=ke (HF1.out.grown hg (.inr rfl))
 replace HL:=ke hl2
 have hs3x:=hg.size
 clear hl2 hg
 obtain ⟨r0,r1,r2,r3,r4,r5,r6,r7,r8⟩:=HB.out.all_9
 have g0:=HB.out.fro 0;have g1:=HB.out.fro 1;have g2:=HB.out.fro 2;have g3:=HB.out.fro 3;have g4:=HB.out.fro 4;have g5:=HB.out.fro 5;have g6:=HB.out.fro 6;have g7:=HB.out.fro 7;have g8:=HB.out.fro 8
 obtain ⟨x0,x1,x2,x3,x4,x5,x6,x7,x8⟩:=HL.out.all_9
 have HG:=ke (acl W4 w.heap.size (.int .i64 6) (.int .i32 0) (.string ⟨#[]⟩) (.string ⟨#[]⟩) (.slice A1 ys1.length c1) (.slice none 0 0) (.slice none 0 0) (.slice none 0 0) (.int .i64 0))
 go_wp2_with fail
 obtain ⟨z0,z1,z2,z3,z4,z5,z6,z7,z8⟩:=(HB.out.to_9 (.int .i64 6) (.int .i32 0) (.string ⟨#[]⟩) (.string ⟨#[]⟩) (.slice A1 ys1.length c1) (.slice none 0 0) (.slice none 0 0) (.slice none 0 0) (.int .i64 0)).all_9
 (try simp only [Exit.inBlock,Exit.then])
 refine bodyPost_ret (v:=.agg #[.int .i64 6,.int .i32 0,.string ⟨#[]⟩,.string ⟨#[]⟩,.slice A1 ys1.length c1,.slice none 0 0,.slice none 0 0,.slice none 0 0,.int .i64 0]) (by simp [results,Tryz.results201,go_sem,z0,z1,z2,z3,z4,z5,z6,z7,z8]) rfl ?_
 rw [HRE.out]
 refine ⟨.st (6) (0) ⟨#[]⟩ ⟨#[]⟩ (.slice A1 ys1.length c1) (.slice none 0 0) (.slice none 0 0) (.slice none 0 0) ys1 [] [] [] 0,rfl,⟨_,_,_,_,A1,none,none,none,c1,0,0,0,ys1,[],[],[],rfl⟩,?_,Mv.over (Below.refl _ _) HM.out HG.out (Nat.le_refl _) hlt⟩
 exact ((ad8 (B:=w.heap.size+1) ⟨Nat.zero_le _,Nat.zero_le _⟩ HF1.out.fk (FkL.nil _ _ _) (FkL.nil _ _ _) (FkL.nil _ _ _) HQ1.out rfl rfl rfl).grown HG.out (.inl (by omega))).mono (by omega)
theorem result_1 (HE:abw) (W0 w:World) (c:Nat) (s:RS) (hv:Vars W0) (h:Rd W0 c s w) (hel:s.sees 0 abx=true):Calls Tryz.prog 201 #[.pointer (some ⟨c,0,none⟩)] w (StC W0 c w (resS s)):=by
 have HRE:Hid (resS s=(mkS 6 0 E0 E0 [] [] [] [],s.skip)):=ke (by simp only [resS,hel,if_true])
 obtain ⟨RR,hRR⟩:∃ RR,resS s=RR:=⟨_,rfl⟩
 rw [hRR] at HRE ⊢
 have hlt:=h.lt
 have hle0:=h.le
 obtain ⟨W1,hW1⟩:∃ W1,w.alloc (.cells #[.int .i64 0,.int .i32 0,.string ⟨#[]⟩,.string ⟨#[]⟩,.slice none 0 0,.slice none 0 0,.slice none 0 0,.slice none 0 0,.int .i64 0] 141)=W1:=⟨_,rfl⟩
 have hb:Below w.heap.size w W1:=by rw [← hW1];exact (Below.refl _ w).alloc (Nat.le_refl _) _
 have hx:Bx W1 w.heap.size #[.int .i64 0,.int .i32 0,.string ⟨#[]⟩,.string ⟨#[]⟩,.slice none 0 0,.slice none 0 0,.slice none 0 0,.slice none 0 0,.int .i64 0] 141:=by rw [← hW1];exact Bx.new _ _ _
 have hz:W1.heap.size=w.heap.size+1:=by rw [← hW1];simp
 have HM:=ke (Mv.below hb h)
 have HB:=ke hx
 clear hb hx
 have HT:Hid (∀ w',Rd W0 c s w'→Calls Tryz.prog 73 #[.pointer (some ⟨c,0,none⟩),.string abx] w' fun e w''=>e=.returned (.bool true)∧Mv W0 c s.skip w' w''):=by
  show ∀ w',_
  intro w' h';exact aa3 W0 w' c _ _ h' hel
 obtain ⟨W2,hW2⟩:∃ W,W1.alloc (.cells #[.int .i64 6,.int .i32 0,.string ⟨#[]⟩,.string ⟨#[]⟩,.slice none 0 0,.slice none 0 0,.slice none 0 0,.slice none 0 0,.int .i64 0] 141)=W:=⟨_,rfl⟩
 have hb:Below W1.heap.size W1 W2:=by rw [← hW2];exact (Below.refl _ _).alloc (Nat.le_refl _) _
 have HL:Hid (Bx W2 (w.heap.size+1) #[.int .i64 6,.int .i32 0,.string ⟨#[]⟩,.string ⟨#[]⟩,.slice none 0 0,.slice none 0 0,.slice none 0 0,.slice none 0 0,.int .i64 0] 141):=ke (by rw [← hW2,← hz];exact Bx.new _ _ _)
 have hz2:W2.heap.size=w.heap.size+1+1:=by rw [← hW2];simp [hz]
 replace HM:=ke (HM.out.trans (Mv.below hb HM.out.2))
 replace HB:=ke (HB.out.next hb)
 clear hb
 subst hW2
 clear hRR h hv hel HE
 go_enter Tryz.func201,Tryz.ntmps201
 go_wp2_with fail
 refine (HT.out _ HM.out.2).mono ?_
 clear HT hW1
 rintro e w2 ⟨rfl,hm⟩
 replace HM:=ke (HM.out.trans hm)
 replace HB:=ke (Bx.grown HB.out hm.1 (by omega))
 replace HL:=ke (Bx.grown HL.out hm.1 (by omega))
 have hs2:=hm.1.size
 clear hm
 obtain ⟨r0,r1,r2,r3,r4,r5,r6,r7,r8⟩:=HB.out.all_9
 have g0:=HB.out.fro 0;have g1:=HB.out.fro 1;have g2:=HB.out.fro 2;have g3:=HB.out.fro 3;have g4:=HB.out.fro 4;have g5:=HB.out.fro 5;have g6:=HB.out.fro 6;have g7:=HB.out.fro 7;have g8:=HB.out.fro 8
 obtain ⟨x0,x1,x2,x3,x4,x5,x6,x7,x8⟩:=HL.out.all_9
 have HG:=ke (acl w2 w.heap.size (.int .i64 6) (.int .i32 0) (.string ⟨#[]⟩) (.string ⟨#[]⟩) (.slice none 0 0) (.slice none 0 0) (.slice none 0 0) (.slice none 0 0) (.int .i64 0))
 go_wp2_with fail
 obtain ⟨z0,z1,z2,z3,z4,z5,z6,z7,z8⟩:=(HB.out.to_9 (.int .i64 6) (.int .i32 0) (.string ⟨#[]⟩) (.string ⟨#[]⟩) (.slice none 0 0) (.slice none 0 0) (.slice none 0 0) (.slice none 0 0) (.int .i64 0)).all_9
 (try simp only [Exit.inBlock,Exit.then])
 refine bodyPost_ret (v:=.agg #[.int .i64 6,.int .i32 0,.string ⟨#[]⟩,.string ⟨#[]⟩,.slice none 0 0,.slice none 0 0,.slice none 0 0,.slice none 0 0,.int .i64 0]) (by simp [results,Tryz.results201,go_sem,z0,z1,z2,z3,z4,z5,z6,z7,z8]) rfl ?_
 rw [HRE.out]
 refine ⟨.st (6) (0) ⟨#[]⟩ ⟨#[]⟩ (.slice none 0 0) (.slice none 0 0) (.slice none 0 0) (.slice none 0 0) [] [] [] [] 0,rfl,⟨_,_,_,_,none,none,none,none,0,0,0,0,[],[],[],[],rfl⟩,?_,Mv.over (Below.refl _ _) HM.out HG.out (Nat.le_refl _) hlt⟩
 exact ((ad8 (B:=w.heap.size+1) ⟨Nat.zero_le _,Nat.zero_le _⟩ (FkL.nil _ _ _) (FkL.nil _ _ _) (FkL.nil _ _ _) (FkL.nil _ _ _) rfl rfl rfl rfl).grown HG.out (.inl (by omega))).mono (by omega)
theorem result_of (HE:abw) (W0 w:World) (c:Nat) (s:RS) (hv:Vars W0) (h:Rd W0 c s w):Calls Tryz.prog 201 #[.pointer (some ⟨c,0,none⟩)] w (StC W0 c w (resS s)):=by
 cases hel:s.sees 0 abx with
 | false=>exact result_0 HE W0 w c s hv h hel
 | true=>exact result_1 HE W0 w c s hv h hel
theorem super_of (HA:adi) (W0 w:World) (c:Nat) (s:RS) (hv:Vars W0) (h:Rd W0 c s w) (hne:s.ws≠[]):Calls Tryz.prog 204 #[.pointer (some ⟨c,0,none⟩)] w (StC W0 c w (supS s)):=by
 obtain ⟨q,hq⟩:∃ q,ar s.skip=q:=⟨_,rfl⟩
 have HRE:Hid (supS s=(mkS 11 0 E0 E0 q.1 [] [] [],q.2.need abx)):=ke (by simp only [supS,hq])
 obtain ⟨RR,hRR⟩:∃ RR,supS s=RR:=⟨_,rfl⟩
 rw [hRR] at HRE ⊢
 have hlt:=h.lt
 have hle0:=h.le
 obtain ⟨W1,hW1⟩:∃ W1,w.alloc (.cells #[.int .i64 0,.int .i32 0,.string ⟨#[]⟩,.string ⟨#[]⟩,.slice none 0 0,.slice none 0 0,.slice none 0 0,.slice none 0 0,.int .i64 0] 141)=W1:=⟨_,rfl⟩
 have hb:Below w.heap.size w W1:=by rw [← hW1];exact (Below.refl _ w).alloc (Nat.le_refl _) _
 have hx:Bx W1 w.heap.size #[.int .i64 0,.int .i32 0,.string ⟨#[]⟩,.string ⟨#[]⟩,.slice none 0 0,.slice none 0 0,.slice none 0 0,.slice none 0 0,.int .i64 0] 141:=by rw [← hW1];exact Bx.new _ _ _
 have hz:W1.heap.size=w.heap.size+1:=by rw [← hW1];simp
 have HM:=ke (Mv.below hb h)
 have HB:=ke hx
 clear hb hx
 have HT:=ke (afq W0 W1 c s HM.out.2 hne)
 have HC:Hid (∀ w',Rd W0 c (s.skip) w'→Calls Tryz.prog 193 #[.pointer (some ⟨c,0,none⟩)] w' (LsC W0 c w' q)):=by
  show ∀ w',_
  intro w' h';have:=HA W0 w' c _ hv h';rw [hq] at this;exact this
 have HN:Hid (∀ w',Rd W0 c (q.2) w'→Calls Tryz.prog 71 #[.pointer (some ⟨c,0,none⟩),.string abx] w' fun e w''=>e=.returned (.tuple #[])∧Mv W0 c (RS.need (q.2) abx) w' w''):=by
  show ∀ w',_
  intro w' h';exact abd W0 w' c _ abx h'
 clear hRR hq h hv hne HA
 go_enter Tryz.func204,Tryz.ntmps204
 go_wp2_with fail
 refine HT.out.mono ?_
 clear HT hW1
 rintro e w2 ⟨rfl,hm⟩
 replace HM:=ke (HM.out.trans hm)
 replace HB:=ke (Bx.grown HB.out hm.1 (by omega))
 have hs2:=hm.1.size
 clear hm
 go_wp2_with fail
 refine (HC.out _ HM.out.2).mono ?_
 clear HC
 rintro e w3 ⟨v1,ys1,rfl,ho,hq1,hm⟩
 obtain ⟨A1,c1,rfl⟩:=ho.form
 have hf1:=(FkL.x ho.own.fk).mono (show w.heap.size+1≤_ by omega)
 have HQ1:=ke hq1
 clear ho hq1
 replace HM:=ke (HM.out.trans hm)
 replace HB:=ke (Bx.grown HB.out hm.1 (by omega))
 have hs3:=hm.1.size
 clear hm
 have HF1:=ke hf1
 clear hf1
 obtain ⟨W4,hW4⟩:∃ W,w3.alloc (.cells #[.int .i64 11,.int .i32 0,.string ⟨#[]⟩,.string ⟨#[]⟩,.slice A1 ys1.length c1,.slice none 0 0,.slice none 0 0,.slice none 0 0,.int .i64 0] 141)=W:=⟨_,rfl⟩
 have hb:Below w3.heap.size w3 W4:=by rw [← hW4];exact (Below.refl _ _).alloc (Nat.le_refl _) _
 have HL:Hid (Bx W4 w3.heap.size #[.int .i64 11,.int .i32 0,.string ⟨#[]⟩,.string ⟨#[]⟩,.slice A1 ys1.length c1,.slice none 0 0,.slice none 0 0,.slice none 0 0,.int .i64 0] 141):=ke (by rw [← hW4];exact Bx.new _ _ _)
 have hz3:W4.heap.size=w3.heap.size+1:=by rw [← hW4];simp
 replace HM:=ke (HM.out.trans (Mv.below hb HM.out.2))
 replace HB:=ke (HB.out.next hb)
 replace HF1:=ke (HF1.out.excl hb (Nat.le_refl _))
 clear hb
 subst hW4
 go_wp2_with fail
 refine (HN.out _ HM.out.2).mono ?_
 clear HN
 rintro e w4 ⟨rfl,hm⟩
 replace HM:=ke (HM.out.trans hm)
 replace HB:=ke (Bx.grown HB.out hm.1 (by omega))
 replace HL:=ke (Bx.grown HL.out hm.1 (by omega))
 replace HF1:=ke (HF1.out.grown hm.1 (.inl (by omega)))
 have hs4:=hm.1.size
 clear hm
 obtain ⟨r0,r1,r2,r3,r4,r5,r6,r7,r8⟩:=HB.out.all_9
 have g0:=HB.out.fro 0;have g1:=HB.out.fro 1;have g2:=HB.out.fro 2;have g3:=HB.out.fro 3;have g4:=HB.out.fro 4;have g5:=HB.out.fro 5;have g6:=HB.out.fro 6;have g7:=HB.out.fro 7;have g8:=HB.out.fro 8
 obtain ⟨x0,x1,x2,x3,x4,x5,x6,x7,x8⟩:=HL.out.all_9
 have HG:=ke (acl w4 w.heap.size (.int .i64 11) (.int .i32 0) (.string ⟨#[]⟩) (.string ⟨#[]⟩) (.slice A1 ys1.length c1) (.slice none 0 0) (.slice none 0 0) (.slice none 0 0) (.int .i64 0))
 go_wp2_with fail
 obtain ⟨z0,z1,z2,z3,z4,z5,z6,z7,z8⟩:=(HB.out.to_9 (.int .i64 11) (.int .i32 0) (.string ⟨#[]⟩) (.string ⟨#[]⟩) (.slice A1 ys1.length c1) (.slice none 0 0) (.slice none 0 0) (.slice none 0 0) (.int .i64 0)).all_9
 (try simp only [Exit.inBlock,Exit.then])
 refine bodyPost_ret (v:=.agg #[.int .i64 11,.int .i32 0,.string ⟨#[]⟩,.string ⟨#[]⟩,.slice A1 ys1.length c1,.slice none 0 0,.slice none 0 0,.slice none 0 0,.int .i64 0]) (by simp [results,Tryz.results204,go_sem,z0,z1,z2,z3,z4,z5,z6,z7,z8]) rfl ?_
 rw [HRE.out]
 refine ⟨.st (11) (0) ⟨#[]⟩ ⟨#[]⟩ (.slice A1 ys1.length c1) (.slice none 0 0) (.slice none 0 0) (.slice none 0 0) ys1 [] [] [] 0,rfl,⟨_,_,_,_,A1,none,none,none,c1,0,0,0,ys1,[],[],[],rfl⟩,?_,Mv.over (Below.refl _ _) HM.out HG.out (Nat.le_refl _) hlt⟩
 exact ((ad8 (B:=w.heap.size+1) ⟨Nat.zero_le _,Nat.zero_le _⟩ HF1.out.fk (FkL.nil _ _ _) (FkL.nil _ _ _) (FkL.nil _ _ _) HQ1.out rfl rfl rfl).grown HG.out (.inl (by omega))).mono (by omega)
theorem attempt_0 (HE:abw) (n:Nat) (b:Rb) (HBL:agx n b) (hbl:∀ s,(b s).2.len≤s.len) (W0 w:World) (c:Nat) (s:RS) (hv:Vars W0) (h:Rd W0 c s w) (hn:4 * s.len+3≤n) (hel:(b (at3 b s)).2.sees 0 ah4=false):Calls Tryz.prog 203 #[.pointer (some ⟨c,0,none⟩)] w (StC W0 c w (attS b s)):=by
 obtain ⟨a,ha⟩:∃ a,b s=a:=⟨_,rfl⟩
 obtain ⟨d,hd⟩:∃ d,b (at3 b s)=d:=⟨_,rfl⟩
 rw [hd] at hel
 have hl0:(at3 b s).len≤s.len:=len_at3' hbl s
 have hl2:d.2.len≤(at3 b s).len:=by rw [← hd];exact hbl _
 have hn1:=abz (at2 b s)
 have hn2:=ab7 (at1 b s)
 have HRE:Hid (attS b s=(mkS 10 0 (at1 b s).classV (at2 b s).nameV [] a.1 d.1 [],d.2)):=ke (by simp only [attS,ha,hd,hel];simp)
 obtain ⟨RR,hRR⟩:∃ RR,attS b s=RR:=⟨_,rfl⟩
 rw [hRR] at HRE ⊢
 have hlt:=h.lt
 have hle0:=h.le
 obtain ⟨W1,hW1⟩:∃ W1,w.alloc (.cells #[.int .i64 0,.int .i32 0,.string ⟨#[]⟩,.string ⟨#[]⟩,.slice none 0 0,.slice none 0 0,.slice none 0 0,.slice none 0 0,.int .i64 0] 141)=W1:=⟨_,rfl⟩
 have hb:Below w.heap.size w W1:=by rw [← hW1];exact (Below.refl _ w).alloc (Nat.le_refl _) _
 have hx:Bx W1 w.heap.size #[.int .i64 0,.int .i32 0,.string ⟨#[]⟩,.string ⟨#[]⟩,.slice none 0 0,.slice none 0 0,.slice none 0 0,.slice none 0 0,.int .i64 0] 141:=by rw [← hW1];exact Bx.new _ _ _
 have hz:W1.heap.size=w.heap.size+1:=by rw [← hW1];simp
 have HM:=ke (Mv.below hb h)
 have HB:=ke hx
 clear hb hx
 have HA:Hid (∀ w',Rd W0 c (s) w'→Calls Tryz.prog 162 #[.pointer (some ⟨c,0,none⟩)] w' (BlC W0 c w' a)):=by
  show ∀ w',_
  intro w' h';have:=HBL W0 w' c _ hv h' (by omega);rw [ha] at this;exact this
 have HN1:Hid (∀ w',Rd W0 c (a.2) w'→Calls Tryz.prog 71 #[.pointer (some ⟨c,0,none⟩),.string acr] w' fun e w''=>e=.returned (.tuple #[])∧Mv W0 c (RS.need (a.2) acr) w' w''):=by
  show ∀ w',_
  intro w' h';exact abd W0 w' c _ acr h'
 have HN2:Hid (∀ w',Rd W0 c (a.2.need acr) w'→Calls Tryz.prog 71 #[.pointer (some ⟨c,0,none⟩),.string aah] w' fun e w''=>e=.returned (.tuple #[])∧Mv W0 c (RS.need (a.2.need acr) aah) w' w''):=by
  show ∀ w',_
  intro w' h';exact abd W0 w' c _ aah h'
 have e1:at1 b s=(a.2.need acr).need aah:=by rw [at1,ha]
 obtain ⟨s1,hs1⟩:∃ s1,at1 b s=s1:=⟨_,rfl⟩
 obtain ⟨s2,hs2⟩:∃ s2,at2 b s=s2:=⟨_,rfl⟩
 obtain ⟨s3,hs3⟩:∃ s3,at3 b s=s3:=⟨_,rfl⟩
 have e2:s2=s1.class:=by rw [← hs1,← hs2];rfl
 have e3:s3=s2.name.need aa6:=by rw [← hs2,← hs3];rfl
 rw [hs1] at e1 HRE hn2
 rw [hs2] at HRE hn1
 rw [hs3] at hd hl0 hl2
 rw [← e1] at HN2
 have HK:Hid (∀ w',Rd W0 c (s1) w'→Calls Tryz.prog 72 #[.pointer (some ⟨c,0,none⟩)] w' fun e w''=>e=.returned (.string s1.classV)∧Mv W0 c (s1.class) w' w''):=by
  show ∀ w',_
  intro w' h';exact acv W0 w' c _ h'
 rw [← e2] at HK
 have HW:Hid (∀ w',Rd W0 c (s2) w'→Calls Tryz.prog 122 #[.pointer (some ⟨c,0,none⟩)] w' fun e w''=>e=.returned (.string s2.nameV)∧Mv W0 c (s2.name) w' w''):=by
  show ∀ w',_
  intro w' h';exact acq W0 w' c _ h'
 have HN3:Hid (∀ w',Rd W0 c (s2.name) w'→Calls Tryz.prog 71 #[.pointer (some ⟨c,0,none⟩),.string aa6] w' fun e w''=>e=.returned (.tuple #[])∧Mv W0 c (RS.need (s2.name) aa6) w' w''):=by
  show ∀ w',_
  intro w' h';exact abd W0 w' c _ aa6 h'
 rw [← e3] at HN3
 have HD:Hid (∀ w',Rd W0 c (s3) w'→Calls Tryz.prog 162 #[.pointer (some ⟨c,0,none⟩)] w' (BlC W0 c w' d)):=by
  show ∀ w',_
  intro w' h';have:=HBL W0 w' c _ hv h' (by omega);rw [hd] at this;exact this
 have HT:Hid (∀ w',Rd W0 c d.2 w'→Calls Tryz.prog 73 #[.pointer (some ⟨c,0,none⟩),.string ah4] w' fun e w''=>e=.returned (.bool false)∧w'=w''):=by
  show ∀ w',_
  intro w' h';exact aaa W0 w' c _ _ h' hel
 obtain ⟨cl,hcl⟩:∃ cl,s1.classV=cl:=⟨_,rfl⟩
 obtain ⟨nm,hnm⟩:∃ nm,s2.nameV=nm:=⟨_,rfl⟩
 rw [hcl] at HK HRE hn2
 rw [hnm] at HW HRE hn1
 clear hRR ha hd hl0 hl2 e1 e2 e3 hs1 hs2 hs3 hcl hnm h hv hn hel HE HBL hbl
 go_enter Tryz.func203,Tryz.ntmps203
 go_wp2_with fail
 refine (HA.out _ HM.out.2).mono ?_
 clear HA hW1
 rintro e w2 ⟨v1,ys1,rfl,ho,hq1,hm⟩
 obtain ⟨A1,c1,rfl⟩:=agz ho
 have hf1:=(FkL.x ho).mono (show w.heap.size+1≤_ by omega)
 have HQ1:=ke hq1
 clear ho hq1
 replace HM:=ke (HM.out.trans hm)
 replace HB:=ke (Bx.grown HB.out hm.1 (by omega))
 have hs2:=hm.1.size
 clear hm
 have HF1:=ke hf1
 clear hf1
 obtain ⟨W3,hW3⟩:∃ W,w2.alloc (.cells #[.int .i64 10,.int .i32 0,.string ⟨#[]⟩,.string ⟨#[]⟩,.slice none 0 0,.slice A1 ys1.length c1,.slice none 0 0,.slice none 0 0,.int .i64 0] 141)=W:=⟨_,rfl⟩
 have hb:Below w2.heap.size w2 W3:=by rw [← hW3];exact (Below.refl _ _).alloc (Nat.le_refl _) _
 have HL:Hid (Bx W3 w2.heap.size #[.int .i64 10,.int .i32 0,.string ⟨#[]⟩,.string ⟨#[]⟩,.slice none 0 0,.slice A1 ys1.length c1,.slice none 0 0,.slice none 0 0,.int .i64 0] 141):=ke (by rw [← hW3];exact Bx.new _ _ _)
 have hz2:W3.heap.size=w2.heap.size+1:=by rw [← hW3];simp
 replace HM:=ke (HM.out.trans (Mv.below hb HM.out.2))
 replace HB:=ke (HB.out.next hb)
 replace HF1:=ke (HF1.out.excl hb (Nat.le_refl _))
 clear hb
 subst hW3
 go_wp2_with fail
 refine (HN1.out _ HM.out.2).mono ?_
 clear HN1
 rintro e w3 ⟨rfl,hm⟩
 replace HM:=ke (HM.out.trans hm)
 replace HB:=ke (Bx.grown HB.out hm.1 (by omega))
 replace HL:=ke (Bx.grown HL.out hm.1 (by omega))
 replace HF1:=ke (HF1.out.grown hm.1 (.inl (by omega)))
 have hs3:=hm.1.size
 clear hm
 go_wp2_with fail
 refine (HN2.out _ HM.out.2).mono ?_
 clear HN2
 rintro e w4 ⟨rfl,hm⟩
 replace HM:=ke (HM.out.trans hm)
 replace HB:=ke (Bx.grown HB.out hm.1 (by omega))
 replace HL:=ke (Bx.grown HL.out hm.1 (by omega))
 replace HF1:=ke (HF1.out.grown hm.1 (.inl (by omega)))
 have hs4:=hm.1.size
 clear hm
 go_wp2_with fail
 refine (HK.out _ HM.out.2).mono ?_
 clear HK
 rintro e w5 ⟨rfl,hm⟩
 replace HM:=ke (HM.out.trans hm)
 replace HB:=ke (Bx.grown HB.out hm.1 (by omega))
 replace HL:=ke (Bx.grown HL.out hm.1 (by omega))
 replace HF1:=ke (HF1.out.grown hm.1 (.inl (by omega)))
 have hs5:=hm.1.size
 clear hm
 go_wp2_with fail
 refine (HW.out _ HM.out.2).mono ?_
 clear HW
 rintro e w6 ⟨rfl,hm⟩
 replace HM:=ke (HM.out.trans hm)
 replace HB:=ke (Bx.grown HB.out hm.1 (by omega))
 replace HL:=ke (Bx.grown HL.out hm.1 (by omega))
 replace HF1:=ke (HF1.out.grown hm.1 (.inl (by omega)))
 have hs6:=hm.1.size
 clear hm
 obtain ⟨W7,hW7⟩:∃ W,(w6.setCell ⟨w2.heap.size,2,none⟩ (.string cl)).setCell ⟨w2.heap.size,3,none⟩ (.string nm)=W:=⟨_,rfl⟩
 have hg:w6.grownBy W7 (some w2.heap.size):=by rw [← hW7];exact (aac _ _ _ _).trans (aac _ _ _ _)
 have hl2:Bx W7 w2.heap.size #[.int .i64 10,.int .i32 0,.string cl,.string nm,.slice none 0 0,.slice A1 ys1.length c1,.slice none 0 0,.slice none 0 0,.int .i64 0] 141:=by
  rw [← hW7]
  have:=(HL.out.set 2 (.string cl)).set 3 (.string nm)
  simpa using this
 obtain ⟨xt0,xt1,xt2,xt3,xt4,xt5,xt6,xt7,xt8⟩:=HL.out.all_9
 have gxt2:=HL.out.fro 2
 have gxt3:=HL.out.fro 3
 replace HM:=ke (Mv.over (Below.refl _ _) HM.out hg (by omega) hlt)
 replace HB:=ke (Bx.grown HB.out hg (by omega))
 replace HF1:=ke (HF1.out.grown hg (.inr rfl))
 replace HL:=ke hl2
 have hs6x:=hg.size
 clear hl2 hg
 go_wp2_with fail
 refine (HN3.out _ HM.out.2).mono ?_
 clear HN3 hW7
 rintro e w7 ⟨rfl,hm⟩
 replace HM:=ke (HM.out.trans hm)
 replace HB:=ke (Bx.grown HB.out hm.1 (by omega))
 replace HL:=ke (Bx.grown HL.out hm.1 (by omega))
 replace HF1:=ke (HF1.out.grown hm.1 (.inl (by omega)))
 have hs7:=hm.1.size
 clear hm
 go_wp2_with fail
 refine (HD.out _ HM.out.2).mono ?_
 clear HD
 rintro e w8 ⟨v2,ys2,rfl,ho,hq2,hm⟩
 obtain ⟨A2,c2,rfl⟩:=agz ho
 have hf2:=FkL.past ho (show w2.heap.size < _ by omega) (show w.heap.size+1≤_ by omega)
 have HQ2:=ke hq2
 clear ho hq2
 replace HM:=ke (HM.out.trans hm)
 replace HB:=ke (Bx.grown HB.out hm.1 (by omega))
 replace HL:=ke (Bx.grown HL.out hm.1 (by omega))
 replace HF1:=ke (HF1.out.grown hm.1 (.inl (by omega)))
 have hs8:=hm.1.size
 clear hm
 have HF2:=ke hf2
 clear hf2
 obtain ⟨W9,hW9⟩:∃ W,w8.setCell ⟨w2.heap.size,6,none⟩ (.slice A2 ys2.length c2)=W:=⟨_,rfl⟩
 have hg:w8.grownBy W9 (some w2.heap.size):=by rw [← hW9];exact aac _ _ _ _
 have hl2:Bx W9 w2.heap.size #[.int .i64 10,.int .i32 0,.string cl,.string nm,.slice none 0 0,.slice A1 ys1.length c1,.slice A2 ys2.length c2,.slice none 0 0,.int .i64 0] 141:=by
  rw [← hW9]
  have:=HL.out.set 6 (.slice A2 ys2.length c2)
  simpa using this
 obtain ⟨xs60,xs61,xs62,xs63,xs64,xs65,xs66,xs67,xs68⟩:=HL.out.all_9
 have gxs66:=HL.out.fro 6
 replace HM:=ke (Mv.over (Below.refl _ _) HM.out hg (by omega) hlt)
 replace HB:=ke (Bx.grown HB.out hg (by omega))
 replace HF1:=ke (HF1.out.grown hg (.inr rfl))
 replace HF2:=ke (HF2.out.grown hg (.inr rfl))
 replace HL:=ke hl2
 have hs8x:=hg.size
 clear hl2 hg
 go_wp2_with fail
 refine (HT.out _ HM.out.2).mono ?_
 clear HT hW9
 rintro e w30 ⟨rfl,rfl⟩
 obtain ⟨r0,r1,r2,r3,r4,r5,r6,r7,r8⟩:=HB.out.all_9
 have g0:=HB.out.fro 0;have g1:=HB.out.fro 1;have g2:=HB.out.fro 2;have g3:=HB.out.fro 3;have g4:=HB.out.fro 4;have g5:=HB.out.fro 5;have g6:=HB.out.fro 6;have g7:=HB.out.fro 7;have g8:=HB.out.fro 8
 obtain ⟨x0,x1,x2,x3,x4,x5,x6,x7,x8⟩:=HL.out.all_9
 have HG:=ke (acl W9 w.heap.size (.int .i64 10) (.int .i32 0) (.string cl) (.string nm) (.slice none 0 0) (.slice A1 ys1.length c1) (.slice A2 ys2.length c2) (.slice none 0 0) (.int .i64 0))
 go_wp2_with fail
 obtain ⟨z0,z1,z2,z3,z4,z5,z6,z7,z8⟩:=(HB.out.to_9 (.int .i64 10) (.int .i32 0) (.string cl) (.string nm) (.slice none 0 0) (.slice A1 ys1.length c1) (.slice A2 ys2.length c2) (.slice none 0 0) (.int .i64 0)).all_9
 (try simp only [Exit.inBlock,Exit.then])
 refine bodyPost_ret (v:=.agg #[.int .i64 10,.int .i32 0,.string cl,.string nm,.slice none 0 0,.slice A1 ys1.length c1,.slice A2 ys2.length c2,.slice none 0 0,.int .i64 0]) (by simp [results,Tryz.results203,go_sem,z0,z1,z2,z3,z4,z5,z6,z7,z8]) rfl ?_
 rw [HRE.out]
 refine ⟨.st (10) (0) cl nm (.slice none 0 0) (.slice A1 ys1.length c1) (.slice A2 ys2.length c2) (.slice none 0 0) [] ys1 ys2 [] 0,rfl,⟨_,_,_,_,none,A1,A2,none,0,c1,c2,0,[],ys1,ys2,[],rfl⟩,?_,Mv.over (Below.refl _ _) HM.out HG.out (Nat.le_refl _) hlt⟩
 exact ((ad8 (B:=w.heap.size+1) ⟨hn2,hn1⟩ (FkL.nil _ _ _) HF1.out.fk HF2.out.fk (FkL.nil _ _ _) rfl HQ1.out HQ2.out rfl).grown HG.out (.inl (by omega))).mono (by omega)
theorem attempt_1 (HE:abw) (n:Nat) (b:Rb) (HBL:agx n b) (hbl:∀ s,(b s).2.len≤s.len) (W0 w:World) (c:Nat) (s:RS) (hv:Vars W0) (h:Rd W0 c s w) (hn:4 * s.len+3≤n) (hel:(b (at3 b s)).2.sees 0 ah4=true):Calls Tryz.prog 203 #[.pointer (some ⟨c,0,none⟩)] w (StC W0 c w (attS b s)):=by
 obtain ⟨a,ha⟩:∃ a,b s=a:=⟨_,rfl⟩
 obtain ⟨d,hd⟩:∃ d,b (at3 b s)=d:=⟨_,rfl⟩
 rw [hd] at hel
 have hl0:(at3 b s).len≤s.len:=len_at3' hbl s
 have hl2:d.2.len≤(at3 b s).len:=by rw [← hd];exact hbl _
 have hn1:=abz (at2 b s)
 have hn2:=ab7 (at1 b s)
 obtain ⟨f,hf⟩:∃ f,b d.2.skip=f:=⟨_,rfl⟩
 have hl3:=aaf d.2
 have HRE:Hid (attS b s=(mkS 10 0 (at1 b s).classV (at2 b s).nameV [] a.1 d.1 f.1,f.2)):=ke (by simp only [attS,ha,hd,hel,hf,if_true])
 obtain ⟨RR,hRR⟩:∃ RR,attS b s=RR:=⟨_,rfl⟩
 rw [hRR] at HRE ⊢
 have hlt:=h.lt
 have hle0:=h.le
 obtain ⟨W1,hW1⟩:∃ W1,w.alloc (.cells #[.int .i64 0,.int .i32 0,.string ⟨#[]⟩,.string ⟨#[]⟩,.slice none 0 0,.slice none 0 0,.slice none 0 0,.slice none 0 0,.int .i64 0] 141)=W1:=⟨_,rfl⟩
 have hb:Below w.heap.size w W1:=by rw [← hW1];exact (Below.refl _ w).alloc (Nat.le_refl _) _
 have hx:Bx W1 w.heap.size #[.int .i64 0,.int .i32 0,.string ⟨#[]⟩,.string ⟨#[]⟩,.slice none 0 0,.slice none 0 0,.slice none 0 0,.slice none 0 0,.int .i64 0] 141:=by rw [← hW1];exact Bx.new _ _ _
 have hz:W1.heap.size=w.heap.size+1:=by rw [← hW1];simp
 have HM:=ke (Mv.below hb h)
 have HB:=ke hx
 clear hb hx
 have HA:Hid (∀ w',Rd W0 c (s) w'→Calls Tryz.prog 162 #[.pointer (some ⟨c,0,none⟩)] w' (BlC W0 c w' a)):=by
  show ∀ w',_
  intro w' h';have:=HBL W0 w' c _ hv h' (by omega);rw [ha] at this;exact this
 have HN1:Hid (∀ w',Rd W0 c (a.2) w'→Calls Tryz.prog 71 #[.pointer (some ⟨c,0,none⟩),.string acr] w' fun e w''=>e=.returned (.tuple #[])∧Mv W0 c (RS.need (a.2) acr) w' w''):=by
  show ∀ w',_
  intro w' h';exact abd W0 w' c _ acr h'
 have HN2:Hid (∀ w',Rd W0 c (a.2.need acr) w'→Calls Tryz.prog 71 #[.pointer (some ⟨c,0,none⟩),.string aah] w' fun e w''=>e=.returned (.tuple #[])∧Mv W0 c (RS.need (a.2.need acr) aah) w' w''):=by
  show ∀ w',_
  intro w' h';exact abd W0 w' c _ aah h'
 have e1:at1 b s=(a.2.need acr).need aah:=by rw [at1,ha]
 obtain ⟨s1,hs1⟩:∃ s1,at1 b s=s1:=⟨_,rfl⟩
 obtain ⟨s2,hs2⟩:∃ s2,at2 b s=s2:=⟨_,rfl⟩
 obtain ⟨s3,hs3⟩:∃ s3,at3 b s=s3:=⟨_,rfl⟩
 have e2:s2=s1.class:=by rw [← hs1,← hs2];rfl
 have e3:s3=s2.name.need aa6:=by rw [← hs2,← hs3];rfl
 rw [hs1] at e1 HRE hn2
 rw [hs2] at HRE hn1
 rw [hs3] at hd hl0 hl2
 rw [← e1] at HN2
 have HK:Hid (∀ w',Rd W0 c (s1) w'→Calls Tryz.prog 72 #[.pointer (some ⟨c,0,none⟩)] w' fun e w''=>e=.returned (.string s1.classV)∧Mv W0 c (s1.class) w' w''):=by
  show ∀ w',_
  intro w' h';exact acv W0 w' c _ h'
 rw [← e2] at HK
 have HW:Hid (∀ w',Rd W0 c (s2) w'→Calls Tryz.prog 122 #[.pointer (some ⟨c,0,none⟩)] w' fun e w''=>e=.returned (.string s2.nameV)∧Mv W0 c (s2.name) w' w''):=by
  show ∀ w',_
  intro w' h';exact acq W0 w' c _ h'
 have HN3:Hid (∀ w',Rd W0 c (s2.name) w'→Calls Tryz.prog 71 #[.pointer (some ⟨c,0,none⟩),.string aa6] w' fun e w''=>e=.returned (.tuple #[])∧Mv W0 c (RS.need (s2.name) aa6) w' w''):=by
  show ∀ w',_
  intro w' h';exact abd W0 w' c _ aa6 h'
 rw [← e3] at HN3
 have HD:Hid (∀ w',Rd W0 c (s3) w'→Calls Tryz.prog 162 #[.pointer (some ⟨c,0,none⟩)] w' (BlC W0 c w' d)):=by
  show ∀ w',_
  intro w' h';have:=HBL W0 w' c _ hv h' (by omega);rw [hd] at this;exact this
 have HF:Hid (∀ w',Rd W0 c (d.2.skip) w'→Calls Tryz.prog 162 #[.pointer (some ⟨c,0,none⟩)] w' (BlC W0 c w' f)):=by
  show ∀ w',_
  intro w' h';have:=HBL W0 w' c _ hv h' (by omega);rw [hf] at this;exact this
 have HT:Hid (∀ w',Rd W0 c d.2 w'→Calls Tryz.prog 73 #[.pointer (some ⟨c,0,none⟩),.string ah4] w' fun e w''=>e=.returned (.bool true)∧Mv W0 c d.2.skip w' w''):=by
  show ∀ w',_
  intro w' h';exact aa3 W0 w' c _ _ h' hel
 obtain ⟨cl,hcl⟩:∃ cl,s1.classV=cl:=⟨_,rfl⟩
 obtain ⟨nm,hnm⟩:∃ nm,s2.nameV=nm:=⟨_,rfl⟩
 rw [hcl] at HK HRE hn2
 rw [hnm] at HW HRE hn1
 clear hRR ha hd hl0 hl2 e1 e2 e3 hs1 hs2 hs3 hcl hnm h hv hn hel HE HBL hbl hf hl3
 go_enter Tryz.func203,Tryz.ntmps203
 go_wp2_with fail
 refine (HA.out _ HM.out.2).mono ?_
 clear HA hW1
 rintro e w2 ⟨v1,ys1,rfl,ho,hq1,hm⟩
 obtain ⟨A1,c1,rfl⟩:=agz ho
 have hf1:=(FkL.x ho).mono (show w.heap.size+1≤_ by omega)
 have HQ1:=ke hq1
 clear ho hq1
 replace HM:=ke (HM.out.trans hm)
 replace HB:=ke (Bx.grown HB.out hm.1 (by omega))
 have hs2:=hm.1.size
 clear hm
 have HF1:=ke hf1
 clear hf1
 obtain ⟨W3,hW3⟩:∃ W,w2.alloc (.cells #[.int .i64 10,.int .i32 0,.string ⟨#[]⟩,.string ⟨#[]⟩,.slice none 0 0,.slice A1 ys1.length c1,.slice none 0 0,.slice none 0 0,.int .i64 0] 141)=W:=⟨_,rfl⟩
 have hb:Below w2.heap.size w2 W3:=by rw [← hW3];exact (Below.refl _ _).alloc (Nat.le_refl _) _
 have HL:Hid (Bx W3 w2.heap.size #[.int .i64 10,.int .i32 0,.string ⟨#[]⟩,.string ⟨#[]⟩,.slice none 0 0,.slice A1 ys1.length c1,.slice none 0 0,.slice none 0 0,.int .i64 0] 141):=ke (by rw [← hW3];exact Bx.new _ _ _)
 have hz2:W3.heap.size=w2.heap.size+1:=by rw [← hW3];simp
 replace HM:=ke (HM.out.trans (Mv.below hb HM.out.2))
 replace HB:=ke (HB.out.next hb)
 replace HF1:=ke (HF1.out.excl hb (Nat.le_refl _))
 clear hb
 subst hW3
 go_wp2_with fail
 refine (HN1.out _ HM.out.2).mono ?_
 clear HN1
 rintro e w3 ⟨rfl,hm⟩
 replace HM:=ke (HM.out.trans hm)
 replace HB:=ke (Bx.grown HB.out hm.1 (by omega))
 replace HL:=ke (Bx.grown HL.out hm.1 (by omega))
 replace HF1:=ke (HF1.out.grown hm.1 (.inl (by omega)))
 have hs3:=hm.1.size
 clear hm
 go_wp2_with fail
 refine (HN2.out _ HM.out.2).mono ?_
 clear HN2
 rintro e w4 ⟨rfl,hm⟩
 replace HM:=ke (HM.out.trans hm)
 replace HB:=ke (Bx.grown HB.out hm.1 (by omega))
 replace HL:=ke (Bx.grown HL.out hm.1 (by omega))
 replace HF1:=ke (HF1.out.grown hm.1 (.inl (by omega)))
 have hs4:=hm.1.size
 clear hm
 go_wp2_with fail
 refine (HK.out _ HM.out.2).mono ?_
 clear HK
 rintro e w5 ⟨rfl,hm⟩
 replace HM:=ke (HM.out.trans hm)
 replace HB:=ke (Bx.grown HB.out hm.1 (by omega))
 replace HL:=ke (Bx.grown HL.out hm.1 (by omega))
 replace HF1:=ke (HF1.out.grown hm.1 (.inl (by omega)))
 have hs5:=hm.1.size
 clear hm
 go_wp2_with fail
 refine (HW.out _ HM.out.2).mono ?_
 clear HW
 rintro e w6 ⟨rfl,hm⟩
 replace HM:=ke (HM.out.trans hm)
 replace HB:=ke (Bx.grown HB.out hm.1 (by omega))
 replace HL:=ke (Bx.grown HL.out hm.1 (by omega))
 replace HF1:=ke (HF1.out.grown hm.1 (.inl (by omega)))
 have hs6:=hm.1.size
 clear hm
 obtain ⟨W7,hW7⟩:∃ W,(w6.setCell ⟨w2.heap.size,2,none⟩ (.string cl)).setCell ⟨w2.heap.size,3,none⟩ (.string nm)=W:=⟨_,rfl⟩
 have hg:w6.grownBy W7 (some w2.heap.size):=by rw [← hW7];exact (aac _ _ _ _).trans (aac _ _ _ _)
 have hl2:Bx W7 w2.heap.size #[.int .i64 10,.int .i32 0,.string cl,.string nm,.slice none 0 0,.slice A1 ys1.length c1,.slice none 0 0,.slice none 0 0,.int .i64 0] 141:=by
  rw [← hW7]
  have:=(HL.out.set 2 (.string cl)).set 3 (.string nm)
  simpa using this
 obtain ⟨xt0,xt1,xt2,xt3,xt4,xt5,xt6,xt7,xt8⟩:=HL.out.all_9
 have gxt2:=HL.out.fro 2
 have gxt3:=HL.out.fro 3
 replace HM:=ke (Mv.over (Below.refl _ _) HM.out hg (by omega) hlt)
 replace HB:=ke (Bx.grown HB.out hg (by omega))
 replace HF1:=ke (HF1.out.grown hg (.inr rfl))
 replace HL:=ke hl2
 have hs6x:=hg.size
 clear hl2 hg
 go_wp2_with fail
 refine (HN3.out _ HM.out.2).mono ?_
 clear HN3 hW7
 rintro e w7 ⟨rfl,hm⟩
 replace HM:=ke (HM.out.trans hm)
 replace HB:=ke (Bx.grown HB.out hm.1 (by omega))
 replace HL:=ke (Bx.grown HL.out hm.1 (by omega))
 replace HF1:=ke (HF1.out.grown hm.1 (.inl (by omega)))
 have hs7:=hm.1.size
 clear hm
 go_wp2_with fail
 refine (HD.out _ HM.out.2).mono ?_
 clear HD
 rintro e w8 ⟨v2,ys2,rfl,ho,hq2,hm⟩
 obtain ⟨A2,c2,rfl⟩:=agz ho
 have hf2:=FkL.past ho (show w2.heap.size < _ by omega) (show w.heap.size+1≤_ by omega)
 have HQ2:=ke hq2
 clear ho hq2
 replace HM:=ke (HM.out.trans hm)
 replace HB:=ke (Bx.grown HB.out hm.1 (by omega))
 replace HL:=ke (Bx.grown HL.out hm.1 (by omega))
 replace HF1:=ke (HF1.out.grown hm.1 (.inl (by omega)))
 have hs8:=hm.1.size
 clear hm
 have HF2:=ke hf2
 clear hf2
 obtain ⟨W9,hW9⟩:∃ W,w8.setCell ⟨w2.heap.size,6,none⟩ (.slice A2 ys2.length c2)=W:=⟨_,rfl⟩
 have hg:w8.grownBy W9 (some w2.heap.size):=by rw [← hW9];exact aac _ _ _ _
 have hl2:Bx W9 w2.heap.size #[.int .i64 10,.int .i32 0,.string cl,.string nm,.slice none 0 0,.slice A1 ys1.length c1,.slice A2 ys2.length c2,.slice none 0 0,.int .i64 0] 141:=by
  rw [← hW9]
  have:=HL.out.set 6 (.slice A2 ys2.length c2)
  simpa using this
 obtain ⟨xs60,xs61,xs62,xs63,xs64,xs65,xs66,xs67,xs68⟩:=HL.out.all_9
 have gxs66:=HL.out.fro 6
 replace HM:=ke (Mv.over (Below.refl _ _) HM.out hg (by omega) hlt)
 replace HB:=ke (Bx.grown HB.out hg (by omega))
 replace HF1:=ke (HF1.out.grown hg (.inr rfl))
 replace HF2:=ke (HF2.out.grown hg (.inr rfl))
 replace HL:=ke hl2
 have hs8x:=hg.size
 clear hl2 hg
 go_wp2_with fail
 refine (HT.out _ HM.out.2).mono ?_
 clear HT hW9
 rintro e w9 ⟨rfl,hm⟩
 replace HM:=ke (HM.out.trans hm)
 replace HB:=ke (Bx.grown HB.out hm.1 (by omega))
 replace HL:=ke (Bx.grown HL.out hm.1 (by omega))
 replace HF1:=ke (HF1.out.grown hm.1 (.inl (by omega)))
 replace HF2:=ke (HF2.out.grown hm.1 (.inl (by omega)))
 have hs9:=hm.1.size
 clear hm
 go_wp2_with fail
 refine (HF.out _ HM.out.2).mono ?_
 clear HF
 rintro e w10 ⟨v3,ys3,rfl,ho,hq3,hm⟩
 obtain ⟨A3,c3,rfl⟩:=agz ho
 have hf3:=FkL.past ho (show w2.heap.size < _ by omega) (show w.heap.size+1≤_ by omega)
 have HQ3:=ke hq3
 clear ho hq3
 replace HM:=ke (HM.out.trans hm)
 replace HB:=ke (Bx.grown HB.out hm.1 (by omega))
 replace HL:=ke (Bx.grown HL.out hm.1 (by omega))
 replace HF1:=ke (HF1.out.grown hm.1 (.inl (by omega)))
 replace HF2:=ke (HF2.out.grown hm.1 (.inl (by omega)))
 have hs10:=hm.1.size
 clear hm
 have HF3:=ke hf3
 clear hf3
 obtain ⟨W11,hW11⟩:∃ W,w10.setCell ⟨w2.heap.size,7,none⟩ (.slice A3 ys3.length c3)=W:=⟨_,rfl⟩
 have hg:w10.grownBy W11 (some w2.heap.size):=by rw [← hW11];exact aac _ _ _ _
 have hl2:Bx W11 w2.heap.size #[.int .i64 10,.int .i32 0,.string cl,.string nm,.slice none 0 0,.slice A1 ys1.length c1,.slice A2 ys2.length c2,.slice A3 ys3.length c3,.int .i64 0] 141:=by
  rw [← hW11]
  have:=HL.out.set 7 (.slice A3 ys3.length c3)
  simpa using this
 obtain ⟨xs70,xs71,xs72,xs73,xs74,xs75,xs76,xs77,xs78⟩:=HL.out.all_9
 have gxs77:=HL.out.fro 7
 replace HM:=ke (Mv.over (Below.refl _ _) HM.out hg (by omega) hlt)
 replace HB:=ke (Bx.grown HB.out hg (by omega))
 replace HF1:=ke (HF1.out.grown hg (.inr rfl))
 replace HF2:=ke (HF2.out.grown hg (.inr rfl))
 replace HF3:=ke (HF3.out.grown hg (.inr rfl))
 replace HL:=ke hl2
 have hs10x:=hg.size
 clear hl2 hg
 obtain ⟨r0,r1,r2,r3,r4,r5,r6,r7,r8⟩:=HB.out.all_9
 have g0:=HB.out.fro 0;have g1:=HB.out.fro 1;have g2:=HB.out.fro 2;have g3:=HB.out.fro 3;have g4:=HB.out.fro 4;have g5:=HB.out.fro 5;have g6:=HB.out.fro 6;have g7:=HB.out.fro 7;have g8:=HB.out.fro 8
 obtain ⟨x0,x1,x2,x3,x4,x5,x6,x7,x8⟩:=HL.out.all_9
 have HG:=ke (acl W11 w.heap.size (.int .i64 10) (.int .i32 0) (.string cl) (.string nm) (.slice none 0 0) (.slice A1 ys1.length c1) (.slice A2 ys2.length c2) (.slice A3 ys3.length c3) (.int .i64 0))
 go_wp2_with fail
 obtain ⟨z0,z1,z2,z3,z4,z5,z6,z7,z8⟩:=(HB.out.to_9 (.int .i64 10) (.int .i32 0) (.string cl) (.string nm) (.slice none 0 0) (.slice A1 ys1.length c1) (.slice A2 ys2.length c2) (.slice A3 ys3.length c3) (.int .i64 0)).all_9
 (try simp only [Exit.inBlock,Exit.then])
 refine bodyPost_ret (v:=.agg #[.int .i64 10,.int .i32 0,.string cl,.string nm,.slice none 0 0,.slice A1 ys1.length c1,.slice A2 ys2.length c2,.slice A3 ys3.length c3,.int .i64 0]) (by simp [results,Tryz.results203,go_sem,z0,z1,z2,z3,z4,z5,z6,z7,z8]) rfl ?_
 rw [HRE.out]
 refine ⟨.st (10) (0) cl nm (.slice none 0 0) (.slice A1 ys1.length c1) (.slice A2 ys2.length c2) (.slice A3 ys3.length c3) [] ys1 ys2 ys3 0,rfl,⟨_,_,_,_,none,A1,A2,A3,0,c1,c2,c3,[],ys1,ys2,ys3,rfl⟩,?_,Mv.over (Below.refl _ _) HM.out HG.out (Nat.le_refl _) hlt⟩
 exact ((ad8 (B:=w.heap.size+1) ⟨hn2,hn1⟩ (FkL.nil _ _ _) HF1.out.fk HF2.out.fk HF3.out.fk rfl HQ1.out HQ2.out HQ3.out).grown HG.out (.inl (by omega))).mono (by omega)
theorem attempt_of (HE:abw) (n:Nat) (b:Rb) (HBL:agx n b) (hbl:∀ s,(b s).2.len≤s.len) (W0 w:World) (c:Nat) (s:RS) (hv:Vars W0) (h:Rd W0 c s w) (hn:4 * s.len+3≤n):Calls Tryz.prog 203 #[.pointer (some ⟨c,0,none⟩)] w (StC W0 c w (attS b s)):=by
 cases hel:(b (at3 b s)).2.sees 0 ah4 with
 | false=>exact attempt_0 HE n b HBL hbl W0 w c s hv h hn hel
 | true=>exact attempt_1 HE n b HBL hbl W0 w c s hv h hn hel
end
section
open Go.RowKit
theorem as_cl (l:List Pl) (k:Nat):∃ t,∀ w,(Instr.typeAssert (aar l k) 84 157 true).run Tryz.prog w=.ok (.tuple #[.string t,.bool (clP l[k]?).isSome]) w:=by
 cases hx:l[k]? with
 | none=>exact ⟨_,fun w=>by simp only [aar,hx,clP];exact is_no_cl w⟩
 | some x =>
  obtain ⟨q,a⟩:=x
  cases q with
  | fx t=>exact ⟨_,fun w=>by simp only [aar,hx,clP,Pr.V];exact is_fx_cl _ w⟩
  | nm t=>exact ⟨_,fun w=>by simp only [aar,hx,clP,Pr.V];exact is_nm_cl _ w⟩
  | cl t=>exact ⟨t,fun w=>by simp only [aar,hx,clP,Pr.V];exact is_cl_cl _ w⟩
  | nu t=>exact ⟨_,fun w=>by simp only [aar,hx,clP,Pr.V];exact is_nu_cl _ w⟩
  | qu t=>exact ⟨_,fun w=>by simp only [aar,hx,clP,Pr.V];exact is_qu_cl _ w⟩
theorem as_nm (l:List Pl) (k:Nat):∃ t,∀ w,(Instr.typeAssert (aar l k) 84 156 true).run Tryz.prog w=.ok (.tuple #[.string t,.bool (nmP l[k]?).isSome]) w:=by
 cases hx:l[k]? with
 | none=>exact ⟨_,fun w=>by simp only [aar,hx,nmP];exact is_no_nm w⟩
 | some x =>
  obtain ⟨q,a⟩:=x
  cases q with
  | fx t=>exact ⟨_,fun w=>by simp only [aar,hx,nmP,Pr.V];exact is_fx_nm _ w⟩
  | nm t=>exact ⟨t,fun w=>by simp only [aar,hx,nmP,Pr.V];exact is_nm_nm _ w⟩
  | cl t=>exact ⟨_,fun w=>by simp only [aar,hx,nmP,Pr.V];exact is_cl_nm _ w⟩
  | nu t=>exact ⟨_,fun w=>by simp only [aar,hx,nmP,Pr.V];exact is_nu_nm _ w⟩
  | qu t=>exact ⟨_,fun w=>by simp only [aar,hx,nmP,Pr.V];exact is_qu_nm _ w⟩
theorem adk (W0 w:World) (c:Nat) (s:RS) (p:ByteArray) (q:Bool) (h:Rd W0 c s w) (hr:s.sees 0 p=q):Calls Tryz.prog 118 #[.pointer (some ⟨c,0,none⟩),.string p] w fun e w'=>e=.returned (.bool q)∧w=w':=by
 have:=abo W0 w c s p h;rw [hr] at this;exact this
theorem var_0 (W0 w:World) (c:Nat) (s:RS) (h:Rd W0 c s w) (h0:s.sees 0 aji=true):Calls Tryz.prog 197 #[.pointer (some ⟨c,0,none⟩)] w fun e w'=>e=.returned (.bool s.varB)∧w=w':=by
 have S0:=ke (adk W0 w c s aji _ h h0)
 have HE:=ke (show s.varB=true by simp [RS.varB,h0])
 clear h h0
 go_enter Tryz.func197,Tryz.ntmps197
 go_wp2_with fail
 refine S0.out.mono ?_
 clear S0
 rintro e w1 ⟨rfl,rfl⟩
 go_wp2_with fail
 go_ret
 exact ⟨ag6 HE.out,rfl⟩
theorem var_1 (W0 w:World) (c:Nat) (s:RS) (h:Rd W0 c s w) (h0:s.sees 0 aji=false) (h1:s.sees 0 afe=true):Calls Tryz.prog 197 #[.pointer (some ⟨c,0,none⟩)] w fun e w'=>e=.returned (.bool s.varB)∧w=w':=by
 have S0:=ke (adk W0 w c s aji _ h h0)
 have S1:=ke (adk W0 w c s afe _ h h1)
 have HE:=ke (show s.varB=true by simp [RS.varB,h0,h1])
 clear h h0 h1
 go_enter Tryz.func197,Tryz.ntmps197
 go_wp2_with fail
 refine S0.out.mono ?_
 clear S0
 rintro e w1 ⟨rfl,rfl⟩
 go_wp2_with fail
 refine S1.out.mono ?_
 clear S1
 rintro e w2 ⟨rfl,rfl⟩
 go_wp2_with fail
 go_ret
 exact ⟨ag6 HE.out,rfl⟩
theorem var_2 (W0 w:World) (c:Nat) (s:RS) (h:Rd W0 c s w) (h0:s.sees 0 aji=false) (h1:s.sees 0 afe=false) (h2:s.sees 0 tStr=true):Calls Tryz.prog 197 #[.pointer (some ⟨c,0,none⟩)] w fun e w'=>e=.returned (.bool s.varB)∧w=w':=by
 have S0:=ke (adk W0 w c s aji _ h h0)
 have S1:=ke (adk W0 w c s afe _ h h1)
 have S2:=ke (adk W0 w c s tStr _ h h2)
 have HE:=ke (show s.varB=true by simp [RS.varB,h0,h1,h2])
 clear h h0 h1 h2
 go_enter Tryz.func197,Tryz.ntmps197
 go_wp2_with fail
 refine S0.out.mono ?_
 clear S0
 rintro e w1 ⟨rfl,rfl⟩
 go_wp2_with fail
 refine S1.out.mono ?_
 clear S1
 rintro e w2 ⟨rfl,rfl⟩
 go_wp2_with fail
 refine S2.out.mono ?_
 clear S2
 rintro e w3 ⟨rfl,rfl⟩
 go_wp2_with fail
 go_ret
 exact ⟨ag6 HE.out,rfl⟩
theorem var_3 (W0 w:World) (c:Nat) (s:RS) (h:Rd W0 c s w) (h0:s.sees 0 aji=false) (h1:s.sees 0 afe=false) (h2:s.sees 0 tStr=false):Calls Tryz.prog 197 #[.pointer (some ⟨c,0,none⟩)] w fun e w'=>e=.returned (.bool s.varB)∧w=w':=by
 have S0:=ke (adk W0 w c s aji _ h h0)
 have S1:=ke (adk W0 w c s afe _ h h1)
 have S2:=ke (adk W0 w c s tStr _ h h2)
 obtain ⟨t0,a0⟩:=as_cl s.ws 0
 obtain ⟨t1,a1⟩:=as_nm s.ws 1
 have A0:=ke (abl W0 w c 0 s h (by omega))
 have A1:=ke (abl W0 w c 1 s h (by omega))
 obtain ⟨u0,hu0⟩:∃ u,aar s.ws 0=u:=⟨_,rfl⟩
 obtain ⟨u1,hu1⟩:∃ u,aar s.ws 1=u:=⟨_,rfl⟩
 obtain ⟨q0,hq0⟩:∃ q,(clP s.ws[0]?).isSome=q:=⟨_,rfl⟩
 obtain ⟨q1,hq1⟩:∃ q,(nmP s.ws[1]?).isSome=q:=⟨_,rfl⟩
 have HE:=ke (show s.varB=(q0 && q1) by simp only [RS.varB,h0,h1,h2,hq0,hq1];simp)
 rw [hu0] at a0 A0
 rw [hu1] at a1 A1
 rw [hq0] at a0
 rw [hq1] at a1
 clear h h0 h1 h2 hu0 hu1 hq0 hq1
 go_enter Tryz.func197,Tryz.ntmps197
 go_wp2_with fail
 refine S0.out.mono ?_
 clear S0
 rintro e w1 ⟨rfl,rfl⟩
 go_wp2_with fail
 refine S1.out.mono ?_
 clear S1
 rintro e w2 ⟨rfl,rfl⟩
 go_wp2_with fail
 refine S2.out.mono ?_
 clear S2
 rintro e w3 ⟨rfl,rfl⟩
 cases q0
 ·go_wp2_with fail
  refine A0.out.mono ?_
  clear A0
  rintro e w5 ⟨rfl,rfl⟩
  go_wp2_with fail
  refine A1.out.mono ?_
  clear A1
  rintro e w6 ⟨rfl,rfl⟩
  go_wp2_with fail
  go_ret
  exact ⟨ag6 (by rw [HE.out];rfl),rfl⟩
 ·go_wp2_with fail
  refine A0.out.mono ?_
  clear A0
  rintro e w5 ⟨rfl,rfl⟩
  go_wp2_with fail
  refine A1.out.mono ?_
  clear A1
  rintro e w6 ⟨rfl,rfl⟩
  go_wp2_with fail
  go_ret
  exact ⟨ag6 (by rw [HE.out];rfl),rfl⟩
theorem afd (W0 w:World) (c:Nat) (s:RS) (h:Rd W0 c s w):Calls Tryz.prog 197 #[.pointer (some ⟨c,0,none⟩)] w fun e w'=>e=.returned (.bool s.varB)∧w=w':=by
 cases h0:s.sees 0 aji with
 | true=>exact var_0 W0 w c s h h0
 | false =>
  cases h1:s.sees 0 afe with
  | true=>exact var_1 W0 w c s h h0 h1
  | false =>
   cases h2:s.sees 0 tStr with
   | true=>exact var_2 W0 w c s h h0 h1 h2
   | false=>exact var_3 W0 w c s h h0 h1 h2
theorem takesValue_any (w:World) (k:Int):Calls Tryz.prog 206 #[.int .i64 k] w fun e w'=>e=.returned (.bool (leftK k))∧w=w':=by
 by_cases h6:k=6
 ·subst h6
  go_enter Tryz.func206,Tryz.ntmps206
  go_wp2
  go_ret
  exact ⟨rfl,rfl⟩
 by_cases h7:k=7
 ·subst h7
  go_enter Tryz.func206,Tryz.ntmps206
  go_wp2
  go_ret
  exact ⟨rfl,rfl⟩
 by_cases h8:k=8
 ·subst h8
  go_enter Tryz.func206,Tryz.ntmps206
  go_wp2
  go_ret
  exact ⟨rfl,rfl⟩
 by_cases h9:k=9
 ·subst h9
  go_enter Tryz.func206,Tryz.ntmps206
  go_wp2
  go_ret
  exact ⟨rfl,rfl⟩
 have e6:(k == 6)=false:=by rw [beq_eq_false_iff_ne];exact h6
 have e7:(k == 7)=false:=by rw [beq_eq_false_iff_ne];exact h7
 have e8:(k == 8)=false:=by rw [beq_eq_false_iff_ne];exact h8
 have e9:(k == 9)=false:=by rw [beq_eq_false_iff_ne];exact h9
 have HE:=ke (show leftK k=false by simp only [leftK,e6,e7,e8,e9];rfl)
 clear h6 h7 h8 h9
 go_enter Tryz.func206,Tryz.ntmps206
 go_wp2
 go_ret
 exact ⟨ag6 HE.out,rfl⟩
theorem does_any (w:World) (k:Int):Calls Tryz.prog 207 #[.int .i64 k] w fun e w'=>e=.returned (.bool (doesK k))∧w=w':=by
 by_cases h10:k=10
 ·subst h10
  go_enter Tryz.func207,Tryz.ntmps207
  go_wp2
  go_ret
  exact ⟨rfl,rfl⟩
 by_cases h11:k=11
 ·subst h11
  go_enter Tryz.func207,Tryz.ntmps207
  go_wp2
  go_ret
  exact ⟨rfl,rfl⟩
 by_cases h12:k=12
 ·subst h12
  go_enter Tryz.func207,Tryz.ntmps207
  go_wp2
  go_ret
  exact ⟨rfl,rfl⟩
 by_cases h13:k=13
 ·subst h13
  go_enter Tryz.func207,Tryz.ntmps207
  go_wp2
  go_ret
  exact ⟨rfl,rfl⟩
 by_cases h14:k=14
 ·subst h14
  go_enter Tryz.func207,Tryz.ntmps207
  go_wp2
  go_ret
  exact ⟨rfl,rfl⟩
 have e10:(k == 10)=false:=by rw [beq_eq_false_iff_ne];exact h10
 have e11:(k == 11)=false:=by rw [beq_eq_false_iff_ne];exact h11
 have e12:(k == 12)=false:=by rw [beq_eq_false_iff_ne];exact h12
 have e13:(k == 13)=false:=by rw [beq_eq_false_iff_ne];exact h13
 have e14:(k == 14)=false:=by rw [beq_eq_false_iff_ne];exact h14
 have HE:=ke (show doesK k=false by simp only [doesK,e10,e11,e12,e13,e14];rfl)
 clear h10 h11 h12 h13 h14
 go_enter Tryz.func207,Tryz.ntmps207
 go_wp2
 go_ret
 exact ⟨ag6 HE.out,rfl⟩
theorem kindN_bare {x y:Nd} (h:aaq y=aaq x):kindN y=kindN x:=by
 cases x<;>cases y<;>simp only [aaq] at h<;>first|(simp only [Nd.ex.injEq] at h;exact h.1)|rfl|cases h
theorem hd_bare {a b:List Nd} (h:aai a=aai b):aaq (hdE a)=aaq (hdE b):=by
 cases a with
 | nil=>cases b with
  | nil=>rfl
  | cons y b=>simp [aai] at h
 | cons x a=>cases b with
  | nil=>simp [aai] at h
  | cons y b=>simp only [aai,List.cons.injEq] at h;exact h.1
theorem fitsS_bare {x y:Nd} (h:aaq y=aaq x) (f:Bool):ahk y f=ahk x f:=by
 cases x<;>cases y<;>simp only [aaq] at h<;>first|rfl|(simp only [Nd.st.injEq,true_and,and_true] at h;obtain ⟨h1,h2,h3,h4,h9,h10⟩:=h;simp only [ahk];rw [h1,kindN_bare (hd_bare h9)])|cases h
theorem Rw.get0 {w:World} {t:Tg} {A:Option Addr} {n cap:Nat} {l:List Nd} (h:Rw w t (.slice A n cap) l) {k:Nat} (hk:k < n):∃ b o x,A=Option.some ⟨b,o,none⟩∧l[k]?=Option.some x∧x.tag=t∧∀ j u,(aab x)[j]?=Option.some u→w.cell? ⟨b,o+k * t.sz+j,none⟩=Option.some u:=by
 obtain ⟨A',cap',hv,_,ht,hc⟩:=h
 injection hv with h1 h2 h3
 obtain ⟨b,o,hA,hcell⟩:=hc (by omega)
 have hl:k < l.length:=by omega
 exact ⟨b,o,l[k],h1.trans hA,List.getElem?_eq_getElem hl,ht _ (List.getElem_mem hl),hcell k _ (List.getElem?_eq_getElem hl)⟩
def ag2 (x:Nd):Prop:=match x with
 | .st k _ _ _ _ _ _ _ e _ _ _ _=>(k=2∨k=3)→e≠[]
 | _=>True
theorem good_bare {x y:Nd} (h:aaq y=aaq x) (hg:ag2 x):ag2 y:=by
 cases x<;>cases y<;>simp only [aaq] at h<;>first|trivial|cases h;done|skip
 simp only [Nd.st.injEq,true_and,and_true] at h
 obtain ⟨h1,h2,h3,h4,h9,h10⟩:=h
 simp only [ag2] at hg ⊢
 intro hk e
 refine hg (h1 ▸ hk) ?_
 have:=adw h9
 rw [e] at this
 exact List.length_eq_zero_iff.1 this.symm
theorem good_stS (b:Rb) (s:RS):ag2 (stS b s).1:=by
 unfold stS
 by_cases h0:s.varB=true
 ·rw [if_pos h0];simp [varS,mkS,ag2]
 rw [if_neg h0]
 by_cases h1:s.sees 0 kIf=true
 ·rw [if_pos h1];unfold choS;split<;>simp [mkS,ag2]
 rw [if_neg h1]
 by_cases h2:s.sees 0 adq=true
 ·rw [if_pos h2];simp [whlS,mkS,ag2]
 rw [if_neg h2]
 by_cases h3:s.sees 0 aco=true
 ·rw [if_pos h3];unfold resS;split<;>simp [mkS,ag2]
 rw [if_neg h3]
 by_cases h4:s.sees 0 aev=true
 ·rw [if_pos h4];simp [mkS,ag2]
 rw [if_neg h4]
 by_cases h5:s.sees 0 adx=true
 ·rw [if_pos h5];simp [mkS,ag2]
 rw [if_neg h5]
 by_cases h6:s.sees 0 agj=true
 ·rw [if_pos h6];simp [mkS,ag2]
 rw [if_neg h6]
 by_cases h7:s.sees 0 kTry=true
 ·rw [if_pos h7];unfold attS;split<;>simp [mkS,ag2]
 rw [if_neg h7]
 have hp:ag2 (plaS s).1:=by unfold plaS;split<;>simp [mkS,ag2]
 by_cases h8:s.sees 0 abp=true
 ·rw [if_pos h8]
  split
  ·simp [supS,mkS,ag2]
  ·exact hp
 rw [if_neg h8];exact hp
theorem fitsP_any (w:World) (k n:Int) (ty nm:ByteArray) (A1 A2 A3 A4:Option Addr) (c1 c2 c3 c4:Nat) (l1 l2 l3 l4:List Nd) (first:Bool) (hr:Rw w .ex (.slice A1 l1.length c1) l1) (hg:ag2 (.st k n ty nm (.slice A1 l1.length c1) (.slice A2 l2.length c2) (.slice A3 l3.length c3) (.slice A4 l4.length c4) l1 l2 l3 l4 0)) :
 Calls Tryz.prog 184 #[.agg #[.int .i64 k,.int .i32 n,.string ty,.string nm,.slice A1 l1.length c1,.slice A2 l2.length c2,.slice A3 l3.length c3,.slice A4 l4.length c4,.int .i64 0],.bool first] w fun e w'=>e=.returned (.bool (ahk (.st k n ty nm (.slice A1 l1.length c1) (.slice A2 l2.length c2) (.slice A3 l3.length c3) (.slice A4 l4.length c4) l1 l2 l3 l4 0) first))∧Below w.heap.size w w':=by
 obtain ⟨W1,hW1⟩:∃ W1,w.alloc (.cells #[.int .i64 k,.int .i32 n,.string ty,.string nm,.slice A1 l1.length c1,.slice A2 l2.length c2,.slice A3 l3.length c3,.slice A4 l4.length c4,.int .i64 0] 141)=W1:=⟨_,rfl⟩
 have hb:Below w.heap.size w W1:=by rw [← hW1];exact (Below.refl _ w).alloc (Nat.le_refl _) _
 have hx:Bx W1 w.heap.size #[.int .i64 k,.int .i32 n,.string ty,.string nm,.slice A1 l1.length c1,.slice A2 l2.length c2,.slice A3 l3.length c3,.slice A4 l4.length c4,.int .i64 0] 141:=by rw [← hW1];exact Bx.new _ _ _
 obtain ⟨a0,a1,a2,a3,a4,a5,a6,a7,a8⟩:=hx.all_9
 have HB:=ke hb
 by_cases h11:k=11
 ·have HE:=ke (show ahk (.st k n ty nm (.slice A1 l1.length c1) (.slice A2 l2.length c2) (.slice A3 l3.length c3) (.slice A4 l4.length c4) l1 l2 l3 l4 0) first=first by simp only [ahk,if_pos h11])
  subst h11
  clear hx hg hr hb
  go_enter Tryz.func184,Tryz.ntmps184
  go_wp2_with fail
  go_ret
  exact ⟨ag6 HE.out,HB.out⟩
 have e11:(k == 11)=false:=by rw [beq_eq_false_iff_ne];exact h11
 by_cases h2:k=2
 ·have HE:=ke (show ahk (.st k n ty nm (.slice A1 l1.length c1) (.slice A2 l2.length c2) (.slice A3 l3.length c3) (.slice A4 l4.length c4) l1 l2 l3 l4 0) first=leftK (kindN (hdE l1)) by simp only [ahk,if_neg h11,if_pos h2])
  have hne:=hg (by simp [h2])
  obtain ⟨z,l,rfl⟩:=List.exists_cons_of_ne_nil hne
  obtain ⟨bb,o,z',hA,hz,hzt,hc⟩:=(Rw.keep (Keep.below hb) hr).get0 (show 0 < (z :: l).length by simp)
  simp only [List.getElem?_cons_zero,Option.some.injEq] at hz
  subst hz hA
  cases z<;>first|(simp [Nd.tag] at hzt;done)|skip
  rename_i zk zn ztx znm zty zv zl zo zth
  have d0:=hc 0 _ rfl
  simp only [Tg.sz,Nat.add_zero,Nat.zero_mul] at d0
  have hp:(0:Int) < ((l.length+1:Nat):Int):=by omega
  have HF:=ke (takesValue_any W1 zk)
  obtain ⟨q,hq⟩:∃ q,leftK zk=q:=⟨_,rfl⟩
  rw [hq] at HF
  have HE2:=ke (show ahk _ first=q by rw [HE.out,← hq];rfl)
  subst h2
  simp only [List.length_cons] at a4 hW1 hx ⊢
  clear hx hg hr hb hne hc hzt hq HE e11
  go_enter Tryz.func184,Tryz.ntmps184
  go_wp2_with fail
  refine HF.out.mono ?_
  clear HF
  rintro e w2 ⟨rfl,rfl⟩
  go_wp2_with fail
  go_ret
  exact ⟨ag6 HE2.out,HB.out⟩
 have e2:(k == 2)=false:=by rw [beq_eq_false_iff_ne];exact h2
 by_cases h3:k=3
 ·have HE:=ke (show ahk (.st k n ty nm (.slice A1 l1.length c1) (.slice A2 l2.length c2) (.slice A3 l3.length c3) (.slice A4 l4.length c4) l1 l2 l3 l4 0) first=doesK (kindN (hdE l1)) by simp only [ahk,if_neg h11,if_neg h2,if_pos h3])
  have hne:=hg (by simp [h3])
  obtain ⟨z,l,rfl⟩:=List.exists_cons_of_ne_nil hne
  obtain ⟨bb,o,z',hA,hz,hzt,hc⟩:=(Rw.keep (Keep.below hb) hr).get0 (show 0 < (z :: l).length by simp)
  simp only [List.getElem?_cons_zero,Option.some.injEq] at hz
  subst hz hA
  cases z<;>first|(simp [Nd.tag] at hzt;done)|skip
  rename_i zk zn ztx znm zty zv zl zo zth
  have d0:=hc 0 _ rfl
  simp only [Tg.sz,Nat.add_zero,Nat.zero_mul] at d0
  have hp:(0:Int) < ((l.length+1:Nat):Int):=by omega
  have HF:=ke (does_any W1 zk)
  obtain ⟨q,hq⟩:∃ q,doesK zk=q:=⟨_,rfl⟩
  rw [hq] at HF
  have HE2:=ke (show ahk _ first=q by rw [HE.out,← hq];rfl)
  subst h3
  simp only [List.length_cons] at a4 hW1 hx ⊢
  clear hx hg hr hb hne hc hzt hq HE e11
  go_enter Tryz.func184,Tryz.ntmps184
  go_wp2_with fail
  refine HF.out.mono ?_
  clear HF
  rintro e w2 ⟨rfl,rfl⟩
  go_wp2_with fail
  go_ret
  exact ⟨ag6 HE2.out,HB.out⟩
 have e3:(k == 3)=false:=by rw [beq_eq_false_iff_ne];exact h3
 have HE:=ke (show ahk (.st k n ty nm (.slice A1 l1.length c1) (.slice A2 l2.length c2) (.slice A3 l3.length c3) (.slice A4 l4.length c4) l1 l2 l3 l4 0) first=true by simp only [ahk,if_neg h11,if_neg h2,if_neg h3])
 clear hx hg hr hb h11 h2 h3
 go_enter Tryz.func184,Tryz.ntmps184
 go_wp2_with fail
 go_ret
 exact ⟨ag6 HE.out,HB.out⟩
end
section
open Go.RowKit
theorem fk_app {B B2:Nat} {w w':World} {v v2 v':Value} {xs ys:List Nd} (h:OwnE B w v xs) (h2:OwnE B2 w v2 ys) (hB:B≤B2) (ho:w'.ownsRow B 35 8 v' (xs.length+ys.length) (xs.flatMap aab ++ ys.flatMap aab)) (hg:w.grownBy w' none):FkL B w' .ex v' (xs ++ ys):=by
 have hk:∀ k j u,w.cell? ⟨k,j,none⟩=some u→w'.cell? ⟨k,j,none⟩=some u:=fun k j u hu=>hg.cell (a:=⟨k,j,none⟩) hu (by simp)
 have ht:∀ x ∈ xs ++ ys,x.tag=.ex:=fun x hx=>by
  rcases List.mem_append.1 hx with hx|hx
  ·exact (h.2.1 x hx).tag
  ·exact (h2.2.1 x hx).tag
 have hm:(xs ++ ys).length≤4000000:=by have:=h.2.2.2;have:=h2.2.2.2;rw [List.length_append];omega
 intro ws hs
 refine ⟨?_,afb (h.2.2.1 ws fun k j u hkB _ hu=>hs k j u hkB (hk k j u hu)) (h2.2.2.1 ws fun k j u hkB _ hu=>hs k j u (Nat.le_trans hB hkB) (hk k j u hu))⟩
 have ho':w'.ownsRow B 35 8 v' (xs ++ ys).length ((xs ++ ys).flatMap aab):=by simpa using ho
 obtain ⟨A,cap,rfl,hc⟩:=abc ho'
 refine ⟨A,cap,rfl,⟨by unfold maxLen;omega,hc⟩,ht,fun hn=>?_⟩
 obtain ⟨g,cap',hv,hg',hl,hat⟩:=ags ho' hn
 injection hv with h1 h2' h3
 refine ⟨g,0,h1,fun i x hx j u hu=>?_⟩
 have hj:j < Tg.ex.sz:=by rw [← ht x (List.mem_of_getElem? hx),← acs];exact (List.getElem?_eq_some_iff.1 hu).1
 have:=(hat (i * Tg.ex.sz+j) u (by rw [ah7 (xs ++ ys) i j x ht hx hj];exact hu)).1
 rw [Nat.zero_add]
 exact hs g _ u hg' this
theorem one_of_len {l:List Nd} (h:l.length=1):∃ z,l=[z]:=by
 match l,h with
 | [z],_=>exact ⟨z,rfl⟩
theorem plain_0 (HE:abw) (W0 w:World) (c:Nat) (s:RS) (hv:Vars W0) (h:Rd W0 c s w) (hel:(ex s).2.sees 0 sEq=false):Calls Tryz.prog 205 #[.pointer (some ⟨c,0,none⟩)] w (StC W0 c w (plaS s)):=by
 obtain ⟨q,hq⟩:∃ q,ex s=q:=⟨_,rfl⟩
 rw [hq] at hel
 have HRE:Hid (plaS s=(mkS 3 0 E0 E0 [hdE q.1] [] [] [],q.2.need abx)):=ke (by simp only [plaS,hq,hel];simp)
 obtain ⟨RR,hRR⟩:∃ RR,plaS s=RR:=⟨_,rfl⟩
 rw [hRR] at HRE ⊢
 have hlt:=h.lt
 have hle0:=h.le
 obtain ⟨W1,hW1⟩:∃ W1,w.alloc (.cells #[.int .i64 0,.int .i32 0,.string ⟨#[]⟩,.string ⟨#[]⟩,.slice none 0 0,.slice none 0 0,.slice none 0 0,.slice none 0 0,.int .i64 0] 141)=W1:=⟨_,rfl⟩
 have hb:Below w.heap.size w W1:=by rw [← hW1];exact (Below.refl _ w).alloc (Nat.le_refl _) _
 have hx:Bx W1 w.heap.size #[.int .i64 0,.int .i32 0,.string ⟨#[]⟩,.string ⟨#[]⟩,.slice none 0 0,.slice none 0 0,.slice none 0 0,.slice none 0 0,.int .i64 0] 141:=by rw [← hW1];exact Bx.new _ _ _
 have hz:W1.heap.size=w.heap.size+1:=by rw [← hW1];simp
 have HM:=ke (Mv.below hb h)
 have HB:=ke hx
 clear hb hx
 have HX:Hid (∀ w',Rd W0 c (s) w'→Calls Tryz.prog 31 #[.pointer (some ⟨c,0,none⟩)] w' (ExC W0 c w' q)):=by
  show ∀ w',_
  intro w' h';have:=HE W0 w' c _ hv h';rw [hq] at this;exact this
 have HN:Hid (∀ w',Rd W0 c (q.2) w'→Calls Tryz.prog 71 #[.pointer (some ⟨c,0,none⟩),.string abx] w' fun e w''=>e=.returned (.tuple #[])∧Mv W0 c (RS.need (q.2) abx) w' w''):=by
  show ∀ w',_
  intro w' h';exact abd W0 w' c _ abx h'
 have HT:Hid (∀ w',Rd W0 c q.2 w'→Calls Tryz.prog 73 #[.pointer (some ⟨c,0,none⟩),.string sEq] w' fun e w''=>e=.returned (.bool false)∧w'=w''):=by
  show ∀ w',_
  intro w' h';exact aaa W0 w' c _ _ h' hel
 clear hRR hq h hv hel HE
 go_enter Tryz.func205,Tryz.ntmps205
 go_wp2_with fail
 refine (HX.out _ HM.out.2).mono ?_
 clear HX hW1
 rintro e w2 ⟨y,rfl,hk,hm⟩
 replace HM:=ke (HM.out.trans hm)
 replace HB:=ke (Bx.grown HB.out hm.1 (by omega))
 have hs2:=hm.1.size
 have HK:=ke (hk.mono (show w.heap.size+1≤_ by omega))
 obtain ⟨k,m,tx,nm,ty,A,cap,l,rfl,_,_,_⟩:=hk
 clear hm
 obtain ⟨W3,hW3⟩:∃ W,w2.alloc (.cells #[.int .i64 k,.int .i32 m,.string tx,.string nm,.string ty,.slice A l.length cap,.string ⟨#[]⟩,.int .i64 0] 35)=W:=⟨_,rfl⟩
 have hb:Below w2.heap.size w2 W3:=by rw [← hW3];exact (Below.refl _ _).alloc (Nat.le_refl _) _
 have HL:Hid (Bx W3 w2.heap.size #[.int .i64 k,.int .i32 m,.string tx,.string nm,.string ty,.slice A l.length cap,.string ⟨#[]⟩,.int .i64 0] 35):=ke (by rw [← hW3];exact Bx.new _ _ _)
 replace HM:=ke (HM.out.trans (Mv.below hb HM.out.2))
 replace HK:=ke (HK.out.below hb)
 replace HB:=ke (HB.out.next hb)
 have hs3:=hb.size
 clear hb
 subst hW3
 simp only [aab]
 go_wp2_with fail
 refine (HT.out _ HM.out.2).mono ?_
 clear HT
 rintro e w4 ⟨rfl,rfl⟩
 go_wp2_with fail
 refine (HN.out _ HM.out.2).mono ?_
 clear HN
 rintro e w5 ⟨rfl,hm⟩
 replace HM:=ke (HM.out.trans hm)
 replace HL:=ke (Bx.grown HL.out hm.1 (by omega))
 replace HB:=ke (Bx.grown HB.out hm.1 (by omega))
 replace HK:=ke (HK.out.grown hm.1 (.inl (by omega)))
 have hs5:=hm.1.size
 clear hm
 obtain ⟨W6,hW6⟩:∃ W,w5.alloc (.cells #[.int .i64 k,.int .i32 m,.string tx,.string nm,.string ty,.slice A l.length cap,.string ⟨#[]⟩,.int .i64 0] 35)=W:=⟨_,rfl⟩
 have hb:Below w5.heap.size w5 W6:=by rw [← hW6];exact (Below.refl _ _).alloc (Nat.le_refl _) _
 have HY:Hid (OwnE (w.heap.size+1) W6 (.slice (some ⟨w5.heap.size,0,none⟩) 1 1) [.ex k m tx nm ty (.slice A l.length cap) l ⟨#[]⟩ 0]):=ke (by have:=OwnE.one HK.out (show w.heap.size+1≤w5.heap.size by omega);simp only [aab] at this;rw [hW6] at this;exact this)
 have HQ:=ke (acp (ExK.nk HK.out).2.2)
 obtain ⟨a0,a1,a2,a3,a4,a5,a6,a7⟩:=HL.out.all_8
 replace HM:=ke (HM.out.trans (Mv.below hb HM.out.2))
 replace HB:=ke (HB.out.next hb)
 clear hb
 obtain ⟨r0,r1,r2,r3,r4,r5,r6,r7,r8⟩:=HB.out.all_9
 have g0:=HB.out.fro 0;have g1:=HB.out.fro 1;have g2:=HB.out.fro 2;have g3:=HB.out.fro 3;have g4:=HB.out.fro 4;have g5:=HB.out.fro 5;have g6:=HB.out.fro 6;have g7:=HB.out.fro 7;have g8:=HB.out.fro 8
 have HG:=ke (acl W6 w.heap.size (.int .i64 3) (.int .i32 0) (.string ⟨#[]⟩) (.string ⟨#[]⟩) (.slice (some ⟨w5.heap.size,0,none⟩) 1 1) (.slice none 0 0) (.slice none 0 0) (.slice none 0 0) (.int .i64 0))
 go_wp2_with fail
 obtain ⟨z0,z1,z2,z3,z4,z5,z6,z7,z8⟩:=(HB.out.to_9 (.int .i64 3) (.int .i32 0) (.string ⟨#[]⟩) (.string ⟨#[]⟩) (.slice (some ⟨w5.heap.size,0,none⟩) 1 1) (.slice none 0 0) (.slice none 0 0) (.slice none 0 0) (.int .i64 0)).all_9
 (try simp only [Exit.inBlock,Exit.then])
 refine bodyPost_ret (v:=.agg #[.int .i64 3,.int .i32 0,.string ⟨#[]⟩,.string ⟨#[]⟩,.slice (some ⟨w5.heap.size,0,none⟩) 1 1,.slice none 0 0,.slice none 0 0,.slice none 0 0,.int .i64 0]) (by simp [results,Tryz.results205,go_sem,z0,z1,z2,z3,z4,z5,z6,z7,z8]) rfl ?_
 rw [HRE.out]
 refine ⟨.st (3) (0) ⟨#[]⟩ ⟨#[]⟩ (.slice (some ⟨w5.heap.size,0,none⟩) 1 1) (.slice none 0 0) (.slice none 0 0) (.slice none 0 0) [.ex k m tx nm ty (.slice A l.length cap) l ⟨#[]⟩ 0] [] [] [] 0,rfl,⟨_,_,_,_,_,_,_,_,_,_,_,_,[.ex k m tx nm ty (.slice A l.length cap) l ⟨#[]⟩ 0],[],[],[],rfl⟩,?_,Mv.over (Below.refl _ _) HM.out HG.out (Nat.le_refl _) hlt⟩
 exact ((ad8 (B:=w.heap.size+1) ⟨Nat.zero_le _,Nat.zero_le _⟩ HY.out.own.fk (FkL.nil _ _ _) (FkL.nil _ _ _) (FkL.nil _ _ _) HQ.out rfl rfl rfl).grown HG.out (.inl (by omega))).mono (by omega)
theorem plain_1 (HE:abw) (W0 w:World) (c:Nat) (s:RS) (hv:Vars W0) (h:Rd W0 c s w) (hel:(ex s).2.sees 0 sEq=true):Calls Tryz.prog 205 #[.pointer (some ⟨c,0,none⟩)] w (StC W0 c w (plaS s)):=by
 obtain ⟨q,hq⟩:∃ q,ex s=q:=⟨_,rfl⟩
 rw [hq] at hel
 obtain ⟨d,hd⟩:∃ d,af3 q.2.skip=d:=⟨_,rfl⟩
 have HRE:Hid (plaS s=(mkS 2 0 E0 E0 (hdE q.1 :: d.1) [] [] [],d.2)):=ke (by simp only [plaS,hq,hel,hd,if_true])
 obtain ⟨RR,hRR⟩:∃ RR,plaS s=RR:=⟨_,rfl⟩
 rw [hRR] at HRE ⊢
 have hd1:d.1.length=1:=by rw [← hd];rfl
 have hlt:=h.lt
 have hle0:=h.le
 obtain ⟨W1,hW1⟩:∃ W1,w.alloc (.cells #[.int .i64 0,.int .i32 0,.string ⟨#[]⟩,.string ⟨#[]⟩,.slice none 0 0,.slice none 0 0,.slice none 0 0,.slice none 0 0,.int .i64 0] 141)=W1:=⟨_,rfl⟩
 have hb:Below w.heap.size w W1:=by rw [← hW1];exact (Below.refl _ w).alloc (Nat.le_refl _) _
 have hx:Bx W1 w.heap.size #[.int .i64 0,.int .i32 0,.string ⟨#[]⟩,.string ⟨#[]⟩,.slice none 0 0,.slice none 0 0,.slice none 0 0,.slice none 0 0,.int .i64 0] 141:=by rw [← hW1];exact Bx.new _ _ _
 have hz:W1.heap.size=w.heap.size+1:=by rw [← hW1];simp
 have HM:=ke (Mv.below hb h)
 have HB:=ke hx
 clear hb hx
 have HX:Hid (∀ w',Rd W0 c (s) w'→Calls Tryz.prog 31 #[.pointer (some ⟨c,0,none⟩)] w' (ExC W0 c w' q)):=by
  show ∀ w',_
  intro w' h';have:=HE W0 w' c _ hv h';rw [hq] at this;exact this
 have HC:Hid (∀ w',Rd W0 c (q.2.skip) w'→Calls Tryz.prog 202 #[.pointer (some ⟨c,0,none⟩)] w' (LsC W0 c w' d)):=by
  show ∀ w',_
  intro w' h';have:=aj0 HE W0 w' c _ hv h';rw [hd] at this;exact this
 have HT:Hid (∀ w',Rd W0 c q.2 w'→Calls Tryz.prog 73 #[.pointer (some ⟨c,0,none⟩),.string sEq] w' fun e w''=>e=.returned (.bool true)∧Mv W0 c q.2.skip w' w''):=by
  show ∀ w',_
  intro w' h';exact aa3 W0 w' c _ _ h' hel
 clear hRR hq h hv hel HE hd
 go_enter Tryz.func205,Tryz.ntmps205
 go_wp2_with fail
 refine (HX.out _ HM.out.2).mono ?_
 clear HX hW1
 rintro e w2 ⟨y,rfl,hk,hm⟩
 replace HM:=ke (HM.out.trans hm)
 replace HB:=ke (Bx.grown HB.out hm.1 (by omega))
 have hs2:=hm.1.size
 have HK:=ke (hk.mono (show w.heap.size+1≤_ by omega))
 obtain ⟨k,m,tx,nm,ty,A,cap,l,rfl,_,_,_⟩:=hk
 clear hm
 obtain ⟨W3,hW3⟩:∃ W,w2.alloc (.cells #[.int .i64 k,.int .i32 m,.string tx,.string nm,.string ty,.slice A l.length cap,.string ⟨#[]⟩,.int .i64 0] 35)=W:=⟨_,rfl⟩
 have hb:Below w2.heap.size w2 W3:=by rw [← hW3];exact (Below.refl _ _).alloc (Nat.le_refl _) _
 have HL:Hid (Bx W3 w2.heap.size #[.int .i64 k,.int .i32 m,.string tx,.string nm,.string ty,.slice A l.length cap,.string ⟨#[]⟩,.int .i64 0] 35):=ke (by rw [← hW3];exact Bx.new _ _ _)
 replace HM:=ke (HM.out.trans (Mv.below hb HM.out.2))
 replace HK:=ke (HK.out.below hb)
 replace HB:=ke (HB.out.next hb)
 have hs3:=hb.size
 clear hb
 subst hW3
 simp only [aab]
 go_wp2_with fail
 refine (HT.out _ HM.out.2).mono ?_
 clear HT
 rintro e w4 ⟨rfl,hm⟩
 replace HM:=ke (HM.out.trans hm)
 replace HL:=ke (Bx.grown HL.out hm.1 (by omega))
 replace HB:=ke (Bx.grown HB.out hm.1 (by omega))
 replace HK:=ke (HK.out.grown hm.1 (.inl (by omega)))
 have hs4:=hm.1.size
 clear hm
 have hsd:w4.drew.heap.size=w4.heap.size:=rfl
 have HMD:=ke (HM.out.trans (Mv.below (Below.refl _ w4).drew HM.out.2))
 have HKD:=ke (HK.out.below (Below.refl _ w4).drew)
 have HBD:=ke (HB.out.next (Below.refl _ w4).drew)
 have HLD:=ke (HL.out.next (Below.refl _ w4).drew)
 have HYA:=ke (OwnE.one HKD.out (show w.heap.size+1≤w4.drew.heap.size by rw [hsd];omega))
 have hba:Below w4.drew.heap.size w4.drew (w4.drew.alloc (.cells #[.int .i64 k,.int .i32 m,.string tx,.string nm,.string ty,.slice A l.length cap,.string ⟨#[]⟩,.int .i64 0] 35)):=(Below.refl _ _).alloc (Nat.le_refl _) _
 have HMA:=ke (HMD.out.trans (Mv.below hba HMD.out.2))
 have HBA:=ke (HBD.out.next hba)
 have HLA:=ke (HLD.out.next hba)
 simp only [aab] at HYA
 obtain ⟨i0,hi,hz0,hzz1,hzz2⟩:=info_parts Tryz.infoEx
 obtain ⟨a0,a1,a2,a3,a4,a5,a6,a7⟩:=HL.out.all_8
 have HQ:=ke (ExK.nk HK.out).2.2
 clear hba HK
 go_wp2_with fail
 go_region_law (first
  | (refine adt rfl (.tmp 9) (.tmp 11) 33 rfl 35 i0 _ 8 112 Tryz.underlying33 hi hz0 hzz1 hzz2 rfl (by decide) (w.heap.size+1) (some ⟨_,0,none⟩) 1 _ rfl HV.out.1 _ _ _ _ rfl HR.out.1 (ai7 HR.out.2.1) (by unfold maxLen;simp) (by simp) HC3.out ?_;intro v3 w6 ho6 hg6 hat6;have hfk:=fk_app HV.out HR.out (by omega) ho6 hg6;have ho7:World.ownsRow _ _ _ _ _ 2 _:=ho6;obtain ⟨A3,cap3,rfl,_⟩:=abc ho7;have HF3:=ke hfk;have HB6:=ke (Bx.next HBV.out (adh hg6));have HM6:=ke (HMV.out.trans (Mv.below (adh hg6) HMV.out.2));obtain ⟨r0,r1,r2,r3,r4,r5,r6,r7,r8⟩:=HB6.out.all_9;have g0:=HB6.out.fro 0;have g1:=HB6.out.fro 1;have g2:=HB6.out.fro 2;have g3:=HB6.out.fro 3;have g4:=HB6.out.fro 4;have g5:=HB6.out.fro 5;have g6:=HB6.out.fro 6;have g7:=HB6.out.fro 7;have g8:=HB6.out.fro 8;clear ho6 ho7 hg6 hat6 hfk)
  | (go_simp;go_wp2_with (go_loud (go_at_call 202;refine (HC.out _ (by first|exact HMD.out.2|exact HMA.out.2)).mono ?_;rintro e w5 ⟨v2,zs,rfl,ho2,hbz,hm⟩;obtain ⟨z,rfl⟩:=one_of_len ((adw hbz).trans hd1);obtain ⟨A2,cap2,rfl⟩:=ho2.form;have HBZ:=ke hbz;have hs5:=hm.1.size;first|(have HV:=ke (HYA.out.grown hm.1 (by omega));have HR:=ke (ho2.mono (show w.heap.size+1≤_ by simp only [World.size_alloc,World.size_drew];omega));have HMV:=ke (HMA.out.trans hm);have HBV:=ke (Bx.grown HBA.out hm.1 (by omega));have HC3:=ke (show w.heap.size+1≤w5.heap.size from Nat.le_trans (by simp only [World.size_alloc,World.size_drew];omega) hs5);clear hm ho2 hbz)|(have HK5:=ke (HKD.out.grown hm.1 (.inl (by omega)));have hb5:Below w5.heap.size w5 (w5.alloc (.cells #[.int .i64 k,.int .i32 m,.string tx,.string nm,.string ty,.slice A l.length cap,.string ⟨#[]⟩,.int .i64 0] 35)):=(Below.refl _ _).alloc (Nat.le_refl _) _;have hw5:w.heap.size+1≤w5.heap.size:=(by omega);have HV:=ke (OwnE.one HK5.out hw5);have HR:=ke ((ho2.mono (show w.heap.size+1≤_ by omega)).below hb5);have HMV:=ke ((HMD.out.trans hm).trans (Mv.below hb5 hm.2));have HBV:=ke ((Bx.grown HBD.out hm.1 (by omega)).next hb5);have HC3:=ke (Nat.le_trans hw5 hb5.size);simp only [aab] at HV;obtain ⟨b0,b1,b2,b3,b4,b5,b6,b7⟩:=(Bx.grown HLD.out hm.1 (by omega)).all_8;clear hm ho2 hbz hb5)))))
 all_goals
  have HG:=ke (acl w6 w.heap.size (.int .i64 2) (.int .i32 0) (.string ⟨#[]⟩) (.string ⟨#[]⟩) (.slice A3 2 cap3) (.slice none 0 0) (.slice none 0 0) (.slice none 0 0) (.int .i64 0))
  go_wp2_with fail
  obtain ⟨z0,z1,z2,z3,z4,z5,z6,z7,z8⟩:=(HB6.out.to_9 (.int .i64 2) (.int .i32 0) (.string ⟨#[]⟩) (.string ⟨#[]⟩) (.slice A3 2 cap3) (.slice none 0 0) (.slice none 0 0) (.slice none 0 0) (.int .i64 0)).all_9
  (try simp only [Exit.inBlock,Exit.then])
  refine bodyPost_ret (v:=.agg #[.int .i64 2,.int .i32 0,.string ⟨#[]⟩,.string ⟨#[]⟩,.slice A3 2 cap3,.slice none 0 0,.slice none 0 0,.slice none 0 0,.int .i64 0]) (by simp [results,Tryz.results205,go_sem,z0,z1,z2,z3,z4,z5,z6,z7,z8]) rfl ?_
  rw [HRE.out]
  refine ⟨.st 2 0 ⟨#[]⟩ ⟨#[]⟩ (.slice A3 2 cap3) (.slice none 0 0) (.slice none 0 0) (.slice none 0 0) [.ex k m tx nm ty (.slice A l.length cap) l ⟨#[]⟩ 0,z] [] [] [] 0,rfl,⟨_,_,_,_,_,_,_,_,_,_,_,_,[.ex k m tx nm ty (.slice A l.length cap) l ⟨#[]⟩ 0,z],[],[],[],rfl⟩,?_,Mv.over (Below.refl _ _) HM6.out HG.out (Nat.le_refl _) hlt⟩
  exact ((ad8 (B:=w.heap.size+1) ⟨Nat.zero_le _,Nat.zero_le _⟩ HF3.out (FkL.nil _ _ _) (FkL.nil _ _ _) (FkL.nil _ _ _) (by rw [aap,HBZ.out];simp only [aai,List.cons_append,List.nil_append];rw [HQ.out]) rfl rfl rfl).grown HG.out (.inl (by omega))).mono (by omega)
theorem plainS_of (HE:abw) (W0 w:World) (c:Nat) (s:RS) (hv:Vars W0) (h:Rd W0 c s w):Calls Tryz.prog 205 #[.pointer (some ⟨c,0,none⟩)] w (StC W0 c w (plaS s)):=by
 cases hel:(ex s).2.sees 0 sEq with
 | false=>exact plain_0 HE W0 w c s hv h hel
 | true=>exact plain_1 HE W0 w c s hv h hel
end
section
open Go.RowKit
theorem StC.open {W0 w w':World} {c:Nat} {r:Nd×RS} {e:Ending} (h:StC W0 c w r e w'):∃ (k n:Int) (ty nm:ByteArray) (A1 A2 A3 A4:Option Addr) (c1 c2 c3 c4:Nat) (l1 l2 l3 l4:List Nd),e=.returned (.agg #[.int .i64 k,.int .i32 n,.string ty,.string nm,.slice A1 l1.length c1,.slice A2 l2.length c2,.slice A3 l3.length c3,.slice A4 l4.length c4,.int .i64 0])∧NK .st w.heap.size none w' r.1 (.st k n ty nm (.slice A1 l1.length c1) (.slice A2 l2.length c2) (.slice A3 l3.length c3) (.slice A4 l4.length c4) l1 l2 l3 l4 0)∧Mv W0 c r.2 w w':=by
 obtain ⟨y,rfl,⟨k,n,ty,nm,A1,A2,A3,A4,c1,c2,c3,c4,l1,l2,l3,l4,rfl⟩,hk,hm⟩:=h
 exact ⟨k,n,ty,nm,A1,A2,A3,A4,c1,c2,c3,c4,l1,l2,l3,l4,rfl,hk,hm⟩
theorem ajl (s:RS):s.typV.size≤maxLen:=by
 have:=ab7 s
 unfold RS.typV
 repeat' split
 ·unfold aji maxLen;decide
 ·unfold afe maxLen;decide
 ·unfold tStr maxLen;decide
 ·exact this
theorem stmt_var (HE:abw) (HAR:adi) (n:Nat) (b:Rb) (HBL:agx n b) (hbl:∀ s,(b s).2.len≤s.len) (W0 w:World) (c:Nat) (s:RS) (hv:Vars W0) (h:Rd W0 c s w) (hn:4 * s.len≤n) (hv0:s.varB=true):Calls Tryz.prog 183 #[.pointer (some ⟨c,0,none⟩)] w (StC W0 c w (stS b s)):=by
 obtain ⟨q,hq⟩:∃ q,valE s.typ.name=q:=⟨_,rfl⟩
 have hnm:=abz s.typ
 have hty:=ajl s
 have HRE:Hid (stS b s=(mkS 1 0 s.typV s.typ.nameV q.1 [] [] [],q.2)):=ke (by simp only [stS,hv0,varS,hq];simp)
 obtain ⟨RR,hRR⟩:∃ RR,stS b s=RR:=⟨_,rfl⟩
 rw [hRR] at HRE ⊢
 have hlt:=h.lt
 have hle0:=h.le
 obtain ⟨W1,hW1⟩:∃ W1,w.alloc (.cells #[.int .i64 0,.int .i32 0,.string ⟨#[]⟩,.string ⟨#[]⟩,.slice none 0 0,.slice none 0 0,.slice none 0 0,.slice none 0 0,.int .i64 0] 141)=W1:=⟨_,rfl⟩
 have hb:Below w.heap.size w W1:=by rw [← hW1];exact (Below.refl _ w).alloc (Nat.le_refl _) _
 have hx:Bx W1 w.heap.size #[.int .i64 0,.int .i32 0,.string ⟨#[]⟩,.string ⟨#[]⟩,.slice none 0 0,.slice none 0 0,.slice none 0 0,.slice none 0 0,.int .i64 0] 141:=by rw [← hW1];exact Bx.new _ _ _
 have hz:W1.heap.size=w.heap.size+1:=by rw [← hW1];simp
 have HM:=ke (Mv.below hb h)
 have HB:=ke hx
 clear hb hx
 have V:=ke (show Calls Tryz.prog 197 #[.pointer (some ⟨c,0,none⟩)] W1 (fun e w'=>e=.returned (.bool true)∧W1=w') from by have:=afd W0 W1 c s HM.out.2;rw [hv0] at this;exact this)
 have HT:Hid (∀ w',Rd W0 c (s) w'→Calls Tryz.prog 123 #[.pointer (some ⟨c,0,none⟩)] w' fun e w''=>e=.returned (.string s.typV)∧Mv W0 c (s.typ) w' w''):=by
  show ∀ w',_
  intro w' h';exact ahs W0 w' c _ h'
 have HNM:Hid (∀ w',Rd W0 c (s.typ) w'→Calls Tryz.prog 122 #[.pointer (some ⟨c,0,none⟩)] w' fun e w''=>e=.returned (.string s.typ.nameV)∧Mv W0 c (s.typ.name) w' w''):=by
  show ∀ w',_
  intro w' h';exact acq W0 w' c _ h'
 have HC:Hid (∀ w',Rd W0 c (s.typ.name) w'→Calls Tryz.prog 198 #[.pointer (some ⟨c,0,none⟩)] w' (LsC W0 c w' q)):=by
  show ∀ w',_
  intro w' h';have:=valE_of HE W0 w' c _ hv h';rw [hq] at this;exact this
 obtain ⟨tyv,htye⟩:∃ tyv,s.typV=tyv:=⟨_,rfl⟩
 obtain ⟨nmv,hnme⟩:∃ nmv,s.typ.nameV=nmv:=⟨_,rfl⟩
 rw [htye] at hty HRE HT
 rw [hnme] at hnm HRE HNM
 clear hRR hq h hv hn HE HAR HBL hbl hv0 htye hnme
 go_enter Tryz.func183,Tryz.ntmps183
 go_wp2_with fail
 refine V.out.mono ?_
 clear V
 rintro e w2 ⟨rfl,rfl⟩
 go_wp2_with fail
 refine (HT.out _ HM.out.2).mono ?_
 clear HT hW1
 rintro e w2 ⟨rfl,hm⟩
 replace HM:=ke (HM.out.trans hm)
 replace HB:=ke (Bx.grown HB.out hm.1 (by omega))
 have hs2:=hm.1.size
 clear hm
 go_wp2_with fail
 refine (HNM.out _ HM.out.2).mono ?_
 clear HNM
 rintro e w3 ⟨rfl,hm⟩
 replace HM:=ke (HM.out.trans hm)
 replace HB:=ke (Bx.grown HB.out hm.1 (by omega))
 have hs3:=hm.1.size
 clear hm
 go_wp2_with fail
 refine (HC.out _ HM.out.2).mono ?_
 clear HC
 rintro e w4 ⟨v1,ys1,rfl,ho,hq1,hm⟩
 obtain ⟨A1,c1,rfl⟩:=ho.form
 have hf1:=(FkL.x ho.own.fk).mono (show w.heap.size+1≤_ by omega)
 have HQ1:=ke hq1
 clear ho hq1
 replace HM:=ke (HM.out.trans hm)
 replace HB:=ke (Bx.grown HB.out hm.1 (by omega))
 have hs4:=hm.1.size
 clear hm
 have HF1:=ke hf1
 clear hf1
 obtain ⟨r0,r1,r2,r3,r4,r5,r6,r7,r8⟩:=HB.out.all_9
 have g0:=HB.out.fro 0;have g1:=HB.out.fro 1;have g2:=HB.out.fro 2;have g3:=HB.out.fro 3;have g4:=HB.out.fro 4;have g5:=HB.out.fro 5;have g6:=HB.out.fro 6;have g7:=HB.out.fro 7;have g8:=HB.out.fro 8
 have HG:=ke (acl w4 w.heap.size (.int .i64 1) (.int .i32 0) (.string tyv) (.string nmv) (.slice A1 ys1.length c1) (.slice none 0 0) (.slice none 0 0) (.slice none 0 0) (.int .i64 0))
 go_wp2_with fail
 obtain ⟨z0,z1,z2,z3,z4,z5,z6,z7,z8⟩:=(HB.out.to_9 (.int .i64 1) (.int .i32 0) (.string tyv) (.string nmv) (.slice A1 ys1.length c1) (.slice none 0 0) (.slice none 0 0) (.slice none 0 0) (.int .i64 0)).all_9
 (try simp only [Exit.inBlock,Exit.then])
 refine bodyPost_ret (v:=.agg #[.int .i64 1,.int .i32 0,.string tyv,.string nmv,.slice A1 ys1.length c1,.slice none 0 0,.slice none 0 0,.slice none 0 0,.int .i64 0]) (by simp [results,Tryz.results183,go_sem,z0,z1,z2,z3,z4,z5,z6,z7,z8]) rfl ?_
 rw [HRE.out]
 refine ⟨.st (1) (0) tyv nmv (.slice A1 ys1.length c1) (.slice none 0 0) (.slice none 0 0) (.slice none 0 0) ys1 [] [] [] 0,rfl,⟨_,_,_,_,A1,none,none,none,c1,0,0,0,ys1,[],[],[],rfl⟩,?_,Mv.over (Below.refl _ _) HM.out HG.out (Nat.le_refl _) hlt⟩
 exact ((ad8 (B:=w.heap.size+1) ⟨hty,hnm⟩ HF1.out.fk (FkL.nil _ _ _) (FkL.nil _ _ _) (FkL.nil _ _ _) HQ1.out rfl rfl rfl).grown HG.out (.inl (by omega))).mono (by omega)
theorem stmt_if (HE:abw) (HAR:adi) (n:Nat) (b:Rb) (HBL:agx n b) (hbl:∀ s,(b s).2.len≤s.len) (W0 w:World) (c:Nat) (s:RS) (hv:Vars W0) (h:Rd W0 c s w) (hn:4 * s.len≤n) (hv0:s.varB=false) (h0:s.sees 0 kIf=true):Calls Tryz.prog 183 #[.pointer (some ⟨c,0,none⟩)] w (StC W0 c w (stS b s)):=by
 have hle:=ace h0
 have hls:=aaf s
 have HRE:Hid (stS b s=choS b s.skip):=ke (by simp only [stS,hv0,h0];simp)
 obtain ⟨RR,hRR⟩:∃ RR,stS b s=RR:=⟨_,rfl⟩
 rw [hRR] at HRE ⊢
 have hlt:=h.lt
 have hle0:=h.le
 obtain ⟨W1,hW1⟩:∃ W1,w.alloc (.cells #[.int .i64 0,.int .i32 0,.string ⟨#[]⟩,.string ⟨#[]⟩,.slice none 0 0,.slice none 0 0,.slice none 0 0,.slice none 0 0,.int .i64 0] 141)=W1:=⟨_,rfl⟩
 have hb:Below w.heap.size w W1:=by rw [← hW1];exact (Below.refl _ w).alloc (Nat.le_refl _) _
 have hx:Bx W1 w.heap.size #[.int .i64 0,.int .i32 0,.string ⟨#[]⟩,.string ⟨#[]⟩,.slice none 0 0,.slice none 0 0,.slice none 0 0,.slice none 0 0,.int .i64 0] 141:=by rw [← hW1];exact Bx.new _ _ _
 have hz:W1.heap.size=w.heap.size+1:=by rw [← hW1];simp
 have HM:=ke (Mv.below hb h)
 have HB:=ke hx
 clear hb hx
 have V:=ke (show Calls Tryz.prog 197 #[.pointer (some ⟨c,0,none⟩)] W1 (fun e w'=>e=.returned (.bool false)∧W1=w') from by have:=afd W0 W1 c s HM.out.2;rw [hv0] at this;exact this)
 have T0:=ke (aa3 W0 W1 c s kIf HM.out.2 h0)
 have HS:Hid (∀ w',Rd W0 c (s.skip) w'→Calls Tryz.prog 199 #[.pointer (some ⟨c,0,none⟩)] w' (StC W0 c w' RR)):=by
  show ∀ w',_
  intro w' h';have:=choice_of HE n b HBL hbl W0 w' c _ hv h' (by omega);rw [HRE.out];exact this
 clear hRR h hv hn HE HAR HBL hbl hv0 h0 hle hls
 go_enter Tryz.func183,Tryz.ntmps183
 go_wp2_with fail
 refine V.out.mono ?_
 clear V
 rintro e w2 ⟨rfl,rfl⟩
 go_wp2_with fail
 refine T0.out.mono ?_
 clear T0 hW1
 rintro e w2 ⟨rfl,hm⟩
 replace HM:=ke (HM.out.trans hm)
 replace HB:=ke (Bx.grown HB.out hm.1 (by omega))
 have hs2:=hm.1.size
 clear hm
 go_wp2_with fail
 refine (HS.out _ HM.out.2).mono ?_
 clear HS
 intro e w3 hst
 obtain ⟨k,m,ty,nm,A1,A2,A3,A4,c1,c2,c3,c4,l1,l2,l3,l4,rfl,hk,hm⟩:=hst.open
 clear hst
 have HK:=ke (hk.mono (show w.heap.size+1≤_ by omega))
 replace HB:=ke (Bx.grown HB.out hm.1 (by omega))
 replace HM:=ke (HM.out.trans hm)
 clear hk hm
 obtain ⟨r0,r1,r2,r3,r4,r5,r6,r7,r8⟩:=HB.out.all_9
 have g0:=HB.out.fro 0;have g1:=HB.out.fro 1;have g2:=HB.out.fro 2;have g3:=HB.out.fro 3;have g4:=HB.out.fro 4;have g5:=HB.out.fro 5;have g6:=HB.out.fro 6;have g7:=HB.out.fro 7;have g8:=HB.out.fro 8
 have HG:=ke (acl w3 w.heap.size (.int .i64 k) (.int .i32 m) (.string ty) (.string nm) (.slice A1 l1.length c1) (.slice A2 l2.length c2) (.slice A3 l3.length c3) (.slice A4 l4.length c4) (.int .i64 0))
 go_wp2_with fail
 obtain ⟨z0,z1,z2,z3,z4,z5,z6,z7,z8⟩:=(HB.out.to_9 (.int .i64 k) (.int .i32 m) (.string ty) (.string nm) (.slice A1 l1.length c1) (.slice A2 l2.length c2) (.slice A3 l3.length c3) (.slice A4 l4.length c4) (.int .i64 0)).all_9
 (try simp only [Exit.inBlock,Exit.then])
 refine bodyPost_ret (v:=.agg #[.int .i64 k,.int .i32 m,.string ty,.string nm,.slice A1 l1.length c1,.slice A2 l2.length c2,.slice A3 l3.length c3,.slice A4 l4.length c4,.int .i64 0]) (by simp [results,Tryz.results183,go_sem,z0,z1,z2,z3,z4,z5,z6,z7,z8]) rfl ?_
 exact ⟨_,rfl,⟨_,_,_,_,_,_,_,_,_,_,_,_,_,_,_,_,rfl⟩,(HK.out.grown HG.out (.inl (by omega))).mono (by omega),Mv.over (Below.refl _ _) HM.out HG.out (Nat.le_refl _) hlt⟩
theorem stmt_return (HE:abw) (HAR:adi) (n:Nat) (b:Rb) (HBL:agx n b) (hbl:∀ s,(b s).2.len≤s.len) (W0 w:World) (c:Nat) (s:RS) (hv:Vars W0) (h:Rd W0 c s w) (hn:4 * s.len≤n) (hv0:s.varB=false) (h0:s.sees 0 kIf=false) (h1:s.sees 0 adq=false) (h2:s.sees 0 aco=true):Calls Tryz.prog 183 #[.pointer (some ⟨c,0,none⟩)] w (StC W0 c w (stS b s)):=by
 have hle:=ace h2
 have hls:=aaf s
 have HRE:Hid (stS b s=resS s.skip):=ke (by simp only [stS,hv0,h0,h1,h2];simp)
 obtain ⟨RR,hRR⟩:∃ RR,stS b s=RR:=⟨_,rfl⟩
 rw [hRR] at HRE ⊢
 have hlt:=h.lt
 have hle0:=h.le
 obtain ⟨W1,hW1⟩:∃ W1,w.alloc (.cells #[.int .i64 0,.int .i32 0,.string ⟨#[]⟩,.string ⟨#[]⟩,.slice none 0 0,.slice none 0 0,.slice none 0 0,.slice none 0 0,.int .i64 0] 141)=W1:=⟨_,rfl⟩
 have hb:Below w.heap.size w W1:=by rw [← hW1];exact (Below.refl _ w).alloc (Nat.le_refl _) _
 have hx:Bx W1 w.heap.size #[.int .i64 0,.int .i32 0,.string ⟨#[]⟩,.string ⟨#[]⟩,.slice none 0 0,.slice none 0 0,.slice none 0 0,.slice none 0 0,.int .i64 0] 141:=by rw [← hW1];exact Bx.new _ _ _
 have hz:W1.heap.size=w.heap.size+1:=by rw [← hW1];simp
 have HM:=ke (Mv.below hb h)
 have HB:=ke hx
 clear hb hx
 have V:=ke (show Calls Tryz.prog 197 #[.pointer (some ⟨c,0,none⟩)] W1 (fun e w'=>e=.returned (.bool false)∧W1=w') from by have:=afd W0 W1 c s HM.out.2;rw [hv0] at this;exact this)
 have T0:=ke (aaa W0 W1 c s kIf HM.out.2 h0)
 have T1:=ke (aaa W0 W1 c s adq HM.out.2 h1)
 have T2:=ke (aa3 W0 W1 c s aco HM.out.2 h2)
 have HS:Hid (∀ w',Rd W0 c (s.skip) w'→Calls Tryz.prog 201 #[.pointer (some ⟨c,0,none⟩)] w' (StC W0 c w' RR)):=by
  show ∀ w',_
  intro w' h';have:=result_of HE W0 w' c _ hv h';rw [HRE.out];exact this
 clear hRR h hv hn HE HAR HBL hbl hv0 h0 h1 h2 hle hls
 go_enter Tryz.func183,Tryz.ntmps183
 go_wp2_with fail
 refine V.out.mono ?_
 clear V
 rintro e w2 ⟨rfl,rfl⟩
 go_wp2_with fail
 refine T0.out.mono ?_
 clear T0
 rintro e w2 ⟨rfl,rfl⟩
 go_wp2_with fail
 refine T1.out.mono ?_
 clear T1
 rintro e w2 ⟨rfl,rfl⟩
 go_wp2_with fail
 refine T2.out.mono ?_
 clear T2 hW1
 rintro e w2 ⟨rfl,hm⟩
 replace HM:=ke (HM.out.trans hm)
 replace HB:=ke (Bx.grown HB.out hm.1 (by omega))
 have hs2:=hm.1.size
 clear hm
 go_wp2_with fail
 refine (HS.out _ HM.out.2).mono ?_
 clear HS
 intro e w3 hst
 obtain ⟨k,m,ty,nm,A1,A2,A3,A4,c1,c2,c3,c4,l1,l2,l3,l4,rfl,hk,hm⟩:=hst.open
 clear hst
 have HK:=ke (hk.mono (show w.heap.size+1≤_ by omega))
 replace HB:=ke (Bx.grown HB.out hm.1 (by omega))
 replace HM:=ke (HM.out.trans hm)
 clear hk hm
 obtain ⟨r0,r1,r2,r3,r4,r5,r6,r7,r8⟩:=HB.out.all_9
 have g0:=HB.out.fro 0;have g1:=HB.out.fro 1;have g2:=HB.out.fro 2;have g3:=HB.out.fro 3;have g4:=HB.out.fro 4;have g5:=HB.out.fro 5;have g6:=HB.out.fro 6;have g7:=HB.out.fro 7;have g8:=HB.out.fro 8
 have HG:=ke (acl w3 w.heap.size (.int .i64 k) (.int .i32 m) (.string ty) (.string nm) (.slice A1 l1.length c1) (.slice A2 l2.length c2) (.slice A3 l3.length c3) (.slice A4 l4.length c4) (.int .i64 0))
 go_wp2_with fail
 obtain ⟨z0,z1,z2,z3,z4,z5,z6,z7,z8⟩:=(HB.out.to_9 (.int .i64 k) (.int .i32 m) (.string ty) (.string nm) (.slice A1 l1.length c1) (.slice A2 l2.length c2) (.slice A3 l3.length c3) (.slice A4 l4.length c4) (.int .i64 0)).all_9
 (try simp only [Exit.inBlock,Exit.then])
 refine bodyPost_ret (v:=.agg #[.int .i64 k,.int .i32 m,.string ty,.string nm,.slice A1 l1.length c1,.slice A2 l2.length c2,.slice A3 l3.length c3,.slice A4 l4.length c4,.int .i64 0]) (by simp [results,Tryz.results183,go_sem,z0,z1,z2,z3,z4,z5,z6,z7,z8]) rfl ?_
 exact ⟨_,rfl,⟨_,_,_,_,_,_,_,_,_,_,_,_,_,_,_,_,rfl⟩,(HK.out.grown HG.out (.inl (by omega))).mono (by omega),Mv.over (Below.refl _ _) HM.out HG.out (Nat.le_refl _) hlt⟩
theorem stmt_try (HE:abw) (HAR:adi) (n:Nat) (b:Rb) (HBL:agx n b) (hbl:∀ s,(b s).2.len≤s.len) (W0 w:World) (c:Nat) (s:RS) (hv:Vars W0) (h:Rd W0 c s w) (hn:4 * s.len≤n) (hv0:s.varB=false) (h0:s.sees 0 kIf=false) (h1:s.sees 0 adq=false) (h2:s.sees 0 aco=false) (h3:s.sees 0 aev=false) (h4:s.sees 0 adx=false) (h5:s.sees 0 agj=false) (h6:s.sees 0 kTry=true):Calls Tryz.prog 183 #[.pointer (some ⟨c,0,none⟩)] w (StC W0 c w (stS b s)):=by
 have hle:=ace h6
 have hls:=aaf s
 have HRE:Hid (stS b s=attS b s.skip):=ke (by simp only [stS,hv0,h0,h1,h2,h3,h4,h5,h6];simp)
 obtain ⟨RR,hRR⟩:∃ RR,stS b s=RR:=⟨_,rfl⟩
 rw [hRR] at HRE ⊢
 have hlt:=h.lt
 have hle0:=h.le
 obtain ⟨W1,hW1⟩:∃ W1,w.alloc (.cells #[.int .i64 0,.int .i32 0,.string ⟨#[]⟩,.string ⟨#[]⟩,.slice none 0 0,.slice none 0 0,.slice none 0 0,.slice none 0 0,.int .i64 0] 141)=W1:=⟨_,rfl⟩
 have hb:Below w.heap.size w W1:=by rw [← hW1];exact (Below.refl _ w).alloc (Nat.le_refl _) _
 have hx:Bx W1 w.heap.size #[.int .i64 0,.int .i32 0,.string ⟨#[]⟩,.string ⟨#[]⟩,.slice none 0 0,.slice none 0 0,.slice none 0 0,.slice none 0 0,.int .i64 0] 141:=by rw [← hW1];exact Bx.new _ _ _
 have hz:W1.heap.size=w.heap.size+1:=by rw [← hW1];simp
 have HM:=ke (Mv.below hb h)
 have HB:=ke hx
 clear hb hx
 have V:=ke (show Calls Tryz.prog 197 #[.pointer (some ⟨c,0,none⟩)] W1 (fun e w'=>e=.returned (.bool false)∧W1=w') from by have:=afd W0 W1 c s HM.out.2;rw [hv0] at this;exact this)
 have T0:=ke (aaa W0 W1 c s kIf HM.out.2 h0)
 have T1:=ke (aaa W0 W1 c s adq HM.out.2 h1)
 have T2:=ke (aaa W0 W1 c s aco HM.out.2 h2)
 have T3:=ke (aaa W0 W1 c s aev HM.out.2 h3)
 have T4:=ke (aaa W0 W1 c s adx HM.out.2 h4)
 have T5:=ke (aaa W0 W1 c s agj HM.out.2 h5)
 have T6:=ke (aa3 W0 W1 c s kTry HM.out.2 h6)
 have HS:Hid (∀ w',Rd W0 c (s.skip) w'→Calls Tryz.prog 203 #[.pointer (some ⟨c,0,none⟩)] w' (StC W0 c w' RR)):=by
  show ∀ w',_
  intro w' h';have:=attempt_of HE n b HBL hbl W0 w' c _ hv h' (by omega);rw [HRE.out];exact this
 clear hRR h hv hn HE HAR HBL hbl hv0 h0 h1 h2 h3 h4 h5 h6 hle hls
 go_enter Tryz.func183,Tryz.ntmps183
 go_wp2_with fail
 refine V.out.mono ?_
 clear V
 rintro e w2 ⟨rfl,rfl⟩
 go_wp2_with fail
 refine T0.out.mono ?_
 clear T0
 rintro e w2 ⟨rfl,rfl⟩
 go_wp2_with fail
 refine T1.out.mono ?_
 clear T1
 rintro e w2 ⟨rfl,rfl⟩
 go_wp2_with fail
 refine T2.out.mono ?_
 clear T2
 rintro e w2 ⟨rfl,rfl⟩
 go_wp2_with fail
 refine T3.out.mono ?_
 clear T3
 rintro e w2 ⟨rfl,rfl⟩
 go_wp2_with fail
 refine T4.out.mono ?_
 clear T4
 rintro e w2 ⟨rfl,rfl⟩
 go_wp2_with fail
 refine T5.out.mono ?_
 clear T5
 rintro e w2 ⟨rfl,rfl⟩
 go_wp2_with fail
 refine T6.out.mono ?_
 clear T6 hW1
 rintro e w2 ⟨rfl,hm⟩
 replace HM:=ke (HM.out.trans hm)
 replace HB:=ke (Bx.grown HB.out hm.1 (by omega))
 have hs2:=hm.1.size
 clear hm
 go_wp2_with fail
 refine (HS.out _ HM.out.2).mono ?_
 clear HS
 intro e w3 hst
 obtain ⟨k,m,ty,nm,A1,A2,A3,A4,c1,c2,c3,c4,l1,l2,l3,l4,rfl,hk,hm⟩:=hst.open
 clear hst
 have HK:=ke (hk.mono (show w.heap.size+1≤_ by omega))
 replace HB:=ke (Bx.grown HB.out hm.1 (by omega))
 replace HM:=ke (HM.out.trans hm)
 clear hk hm
 obtain ⟨r0,r1,r2,r3,r4,r5,r6,r7,r8⟩:=HB.out.all_9
 have g0:=HB.out.fro 0;have g1:=HB.out.fro 1;have g2:=HB.out.fro 2;have g3:=HB.out.fro 3;have g4:=HB.out.fro 4;have g5:=HB.out.fro 5;have g6:=HB.out.fro 6;have g7:=HB.out.fro 7;have g8:=HB.out.fro 8
 have HG:=ke (acl w3 w.heap.size (.int .i64 k) (.int .i32 m) (.string ty) (.string nm) (.slice A1 l1.length c1) (.slice A2 l2.length c2) (.slice A3 l3.length c3) (.slice A4 l4.length c4) (.int .i64 0))
 go_wp2_with fail
 obtain ⟨z0,z1,z2,z3,z4,z5,z6,z7,z8⟩:=(HB.out.to_9 (.int .i64 k) (.int .i32 m) (.string ty) (.string nm) (.slice A1 l1.length c1) (.slice A2 l2.length c2) (.slice A3 l3.length c3) (.slice A4 l4.length c4) (.int .i64 0)).all_9
 (try simp only [Exit.inBlock,Exit.then])
 refine bodyPost_ret (v:=.agg #[.int .i64 k,.int .i32 m,.string ty,.string nm,.slice A1 l1.length c1,.slice A2 l2.length c2,.slice A3 l3.length c3,.slice A4 l4.length c4,.int .i64 0]) (by simp [results,Tryz.results183,go_sem,z0,z1,z2,z3,z4,z5,z6,z7,z8]) rfl ?_
 exact ⟨_,rfl,⟨_,_,_,_,_,_,_,_,_,_,_,_,_,_,_,_,rfl⟩,(HK.out.grown HG.out (.inl (by omega))).mono (by omega),Mv.over (Below.refl _ _) HM.out HG.out (Nat.le_refl _) hlt⟩
theorem stmt_while (HE:abw) (HAR:adi) (n:Nat) (b:Rb) (HBL:agx n b) (hbl:∀ s,(b s).2.len≤s.len) (W0 w:World) (c:Nat) (s:RS) (hv:Vars W0) (h:Rd W0 c s w) (hn:4 * s.len≤n) (hv0:s.varB=false) (h0:s.sees 0 kIf=false) (h1:s.sees 0 adq=true):Calls Tryz.prog 183 #[.pointer (some ⟨c,0,none⟩)] w (StC W0 c w (stS b s)):=by
 have hle:=ace h1
 have hls:=aaf s
 obtain ⟨q,hq⟩:∃ q,aft s.skip=q:=⟨_,rfl⟩
 obtain ⟨a,ha⟩:∃ a,b q.2=a:=⟨_,rfl⟩
 have hl1:q.2.len≤s.skip.len - 1:=by rw [← hq];exact ah3 _
 have HRE:Hid (stS b s=(mkS 5 0 E0 E0 q.1 a.1 [] [],a.2)):=ke (by simp only [stS,hv0,h0,h1,whlS,hq,ha];simp)
 obtain ⟨RR,hRR⟩:∃ RR,stS b s=RR:=⟨_,rfl⟩
 rw [hRR] at HRE ⊢
 have hlt:=h.lt
 have hle0:=h.le
 obtain ⟨W1,hW1⟩:∃ W1,w.alloc (.cells #[.int .i64 0,.int .i32 0,.string ⟨#[]⟩,.string ⟨#[]⟩,.slice none 0 0,.slice none 0 0,.slice none 0 0,.slice none 0 0,.int .i64 0] 141)=W1:=⟨_,rfl⟩
 have hb:Below w.heap.size w W1:=by rw [← hW1];exact (Below.refl _ w).alloc (Nat.le_refl _) _
 have hx:Bx W1 w.heap.size #[.int .i64 0,.int .i32 0,.string ⟨#[]⟩,.string ⟨#[]⟩,.slice none 0 0,.slice none 0 0,.slice none 0 0,.slice none 0 0,.int .i64 0] 141:=by rw [← hW1];exact Bx.new _ _ _
 have hz:W1.heap.size=w.heap.size+1:=by rw [← hW1];simp
 have HM:=ke (Mv.below hb h)
 have HB:=ke hx
 clear hb hx
 have V:=ke (show Calls Tryz.prog 197 #[.pointer (some ⟨c,0,none⟩)] W1 (fun e w'=>e=.returned (.bool false)∧W1=w') from by have:=afd W0 W1 c s HM.out.2;rw [hv0] at this;exact this)
 have T0:=ke (aaa W0 W1 c s kIf HM.out.2 h0)
 have T1:=ke (aa3 W0 W1 c s adq HM.out.2 h1)
 have HC:Hid (∀ w',Rd W0 c (s.skip) w'→Calls Tryz.prog 200 #[.pointer (some ⟨c,0,none⟩)] w' (LsC W0 c w' q)):=by
  show ∀ w',_
  intro w' h';have:=cond_of HE W0 w' c _ hv h';rw [hq] at this;exact this
 have HA:Hid (∀ w',Rd W0 c (q.2) w'→Calls Tryz.prog 162 #[.pointer (some ⟨c,0,none⟩)] w' (BlC W0 c w' a)):=by
  show ∀ w',_
  intro w' h';have:=HBL W0 w' c _ hv h' (by omega);rw [ha] at this;exact this
 clear hRR hq ha hl1 h hv hn HE HAR HBL hbl hv0 h0 h1 hle hls
 go_enter Tryz.func183,Tryz.ntmps183
 go_wp2_with fail
 refine V.out.mono ?_
 clear V
 rintro e w2 ⟨rfl,rfl⟩
 go_wp2_with fail
 refine T0.out.mono ?_
 clear T0
 rintro e w2 ⟨rfl,rfl⟩
 go_wp2_with fail
 refine T1.out.mono ?_
 clear T1 hW1
 rintro e w2 ⟨rfl,hm⟩
 replace HM:=ke (HM.out.trans hm)
 replace HB:=ke (Bx.grown HB.out hm.1 (by omega))
 have hs2:=hm.1.size
 clear hm
 go_wp2_with fail
 refine (HC.out _ HM.out.2).mono ?_
 clear HC
 rintro e w3 ⟨v1,ys1,rfl,ho,hq1,hm⟩
 obtain ⟨A1,c1,rfl⟩:=ho.form
 have hf1:=(FkL.x ho.own.fk).mono (show w.heap.size+1≤_ by omega)
 have HQ1:=ke hq1
 clear ho hq1
 replace HM:=ke (HM.out.trans hm)
 replace HB:=ke (Bx.grown HB.out hm.1 (by omega))
 have hs3:=hm.1.size
 clear hm
 have HF1:=ke hf1
 clear hf1
 go_wp2_with fail
 refine (HA.out _ HM.out.2).mono ?_
 clear HA
 rintro e w4 ⟨v2,ys2,rfl,ho,hq2,hm⟩
 obtain ⟨A2,c2,rfl⟩:=agz ho
 have hf2:=(FkL.x ho).mono (show w.heap.size+1≤_ by omega)
 have HQ2:=ke hq2
 clear ho hq2
 replace HM:=ke (HM.out.trans hm)
 replace HB:=ke (Bx.grown HB.out hm.1 (by omega))
 replace HF1:=ke (HF1.out.grown hm.1 (.inl (by omega)))
 have hs4:=hm.1.size
 clear hm
 have HF2:=ke hf2
 clear hf2
 obtain ⟨r0,r1,r2,r3,r4,r5,r6,r7,r8⟩:=HB.out.all_9
 have g0:=HB.out.fro 0;have g1:=HB.out.fro 1;have g2:=HB.out.fro 2;have g3:=HB.out.fro 3;have g4:=HB.out.fro 4;have g5:=HB.out.fro 5;have g6:=HB.out.fro 6;have g7:=HB.out.fro 7;have g8:=HB.out.fro 8
 have HG:=ke (acl w4 w.heap.size (.int .i64 5) (.int .i32 0) (.string ⟨#[]⟩) (.string ⟨#[]⟩) (.slice A1 ys1.length c1) (.slice A2 ys2.length c2) (.slice none 0 0) (.slice none 0 0) (.int .i64 0))
 go_wp2_with fail
 obtain ⟨z0,z1,z2,z3,z4,z5,z6,z7,z8⟩:=(HB.out.to_9 (.int .i64 5) (.int .i32 0) (.string ⟨#[]⟩) (.string ⟨#[]⟩) (.slice A1 ys1.length c1) (.slice A2 ys2.length c2) (.slice none 0 0) (.slice none 0 0) (.int .i64 0)).all_9
 (try simp only [Exit.inBlock,Exit.then])
 refine bodyPost_ret (v:=.agg #[.int .i64 5,.int .i32 0,.string ⟨#[]⟩,.string ⟨#[]⟩,.slice A1 ys1.length c1,.slice A2 ys2.length c2,.slice none 0 0,.slice none 0 0,.int .i64 0]) (by simp [results,Tryz.results183,go_sem,z0,z1,z2,z3,z4,z5,z6,z7,z8]) rfl ?_
 rw [HRE.out]
 refine ⟨.st (5) (0) ⟨#[]⟩ ⟨#[]⟩ (.slice A1 ys1.length c1) (.slice A2 ys2.length c2) (.slice none 0 0) (.slice none 0 0) ys1 ys2 [] [] 0,rfl,⟨_,_,_,_,A1,A2,none,none,c1,c2,0,0,ys1,ys2,[],[],rfl⟩,?_,Mv.over (Below.refl _ _) HM.out HG.out (Nat.le_refl _) hlt⟩
 exact ((ad8 (B:=w.heap.size+1) ⟨Nat.zero_le _,Nat.zero_le _⟩ HF1.out.fk HF2.out.fk (FkL.nil _ _ _) (FkL.nil _ _ _) HQ1.out HQ2.out rfl rfl).grown HG.out (.inl (by omega))).mono (by omega)
theorem stmt_print (HE:abw) (HAR:adi) (n:Nat) (b:Rb) (HBL:agx n b) (hbl:∀ s,(b s).2.len≤s.len) (W0 w:World) (c:Nat) (s:RS) (hv:Vars W0) (h:Rd W0 c s w) (hn:4 * s.len≤n) (hv0:s.varB=false) (h0:s.sees 0 kIf=false) (h1:s.sees 0 adq=false) (h2:s.sees 0 aco=false) (h3:s.sees 0 aev=true):Calls Tryz.prog 183 #[.pointer (some ⟨c,0,none⟩)] w (StC W0 c w (stS b s)):=by
 obtain ⟨q,hq⟩:∃ q,af3 s.skip=q:=⟨_,rfl⟩
 have HRE:Hid (stS b s=(mkS 7 0 E0 E0 q.1 [] [] [],q.2)):=ke (by simp only [stS,hv0,h0,h1,h2,h3,hq];simp)
 obtain ⟨RR,hRR⟩:∃ RR,stS b s=RR:=⟨_,rfl⟩
 rw [hRR] at HRE ⊢
 have hlt:=h.lt
 have hle0:=h.le
 obtain ⟨W1,hW1⟩:∃ W1,w.alloc (.cells #[.int .i64 0,.int .i32 0,.string ⟨#[]⟩,.string ⟨#[]⟩,.slice none 0 0,.slice none 0 0,.slice none 0 0,.slice none 0 0,.int .i64 0] 141)=W1:=⟨_,rfl⟩
 have hb:Below w.heap.size w W1:=by rw [← hW1];exact (Below.refl _ w).alloc (Nat.le_refl _) _
 have hx:Bx W1 w.heap.size #[.int .i64 0,.int .i32 0,.string ⟨#[]⟩,.string ⟨#[]⟩,.slice none 0 0,.slice none 0 0,.slice none 0 0,.slice none 0 0,.int .i64 0] 141:=by rw [← hW1];exact Bx.new _ _ _
 have hz:W1.heap.size=w.heap.size+1:=by rw [← hW1];simp
 have HM:=ke (Mv.below hb h)
 have HB:=ke hx
 clear hb hx
 have V:=ke (show Calls Tryz.prog 197 #[.pointer (some ⟨c,0,none⟩)] W1 (fun e w'=>e=.returned (.bool false)∧W1=w') from by have:=afd W0 W1 c s HM.out.2;rw [hv0] at this;exact this)
 have T0:=ke (aaa W0 W1 c s kIf HM.out.2 h0)
 have T1:=ke (aaa W0 W1 c s adq HM.out.2 h1)
 have T2:=ke (aaa W0 W1 c s aco HM.out.2 h2)
 have T3:=ke (aa3 W0 W1 c s aev HM.out.2 h3)
 have HC:Hid (∀ w',Rd W0 c (s.skip) w'→Calls Tryz.prog 202 #[.pointer (some ⟨c,0,none⟩)] w' (LsC W0 c w' q)):=by
  show ∀ w',_
  intro w' h';have:=aj0 HE W0 w' c _ hv h';rw [hq] at this;exact this
 clear hRR hq h hv hn HE HAR HBL hbl hv0 h0 h1 h2 h3
 go_enter Tryz.func183,Tryz.ntmps183
 go_wp2_with fail
 refine V.out.mono ?_
 clear V
 rintro e w2 ⟨rfl,rfl⟩
 go_wp2_with fail
 refine T0.out.mono ?_
 clear T0
 rintro e w2 ⟨rfl,rfl⟩
 go_wp2_with fail
 refine T1.out.mono ?_
 clear T1
 rintro e w2 ⟨rfl,rfl⟩
 go_wp2_with fail
 refine T2.out.mono ?_
 clear T2
 rintro e w2 ⟨rfl,rfl⟩
 go_wp2_with fail
 refine T3.out.mono ?_
 clear T3 hW1
 rintro e w2 ⟨rfl,hm⟩
 replace HM:=ke (HM.out.trans hm)
 replace HB:=ke (Bx.grown HB.out hm.1 (by omega))
 have hs2:=hm.1.size
 clear hm
 go_wp2_with fail
 refine (HC.out _ HM.out.2).mono ?_
 clear HC
 rintro e w3 ⟨v1,ys1,rfl,ho,hq1,hm⟩
 obtain ⟨A1,c1,rfl⟩:=ho.form
 have hf1:=(FkL.x ho.own.fk).mono (show w.heap.size+1≤_ by omega)
 have HQ1:=ke hq1
 clear ho hq1
 replace HM:=ke (HM.out.trans hm)
 replace HB:=ke (Bx.grown HB.out hm.1 (by omega))
 have hs3:=hm.1.size
 clear hm
 have HF1:=ke hf1
 clear hf1
 obtain ⟨r0,r1,r2,r3,r4,r5,r6,r7,r8⟩:=HB.out.all_9
 have g0:=HB.out.fro 0;have g1:=HB.out.fro 1;have g2:=HB.out.fro 2;have g3:=HB.out.fro 3;have g4:=HB.out.fro 4;have g5:=HB.out.fro 5;have g6:=HB.out.fro 6;have g7:=HB.out.fro 7;have g8:=HB.out.fro 8
 have HG:=ke (acl w3 w.heap.size (.int .i64 7) (.int .i32 0) (.string ⟨#[]⟩) (.string ⟨#[]⟩) (.slice A1 ys1.length c1) (.slice none 0 0) (.slice none 0 0) (.slice none 0 0) (.int .i64 0))
 go_wp2_with fail
 obtain ⟨z0,z1,z2,z3,z4,z5,z6,z7,z8⟩:=(HB.out.to_9 (.int .i64 7) (.int .i32 0) (.string ⟨#[]⟩) (.string ⟨#[]⟩) (.slice A1 ys1.length c1) (.slice none 0 0) (.slice none 0 0) (.slice none 0 0) (.int .i64 0)).all_9
 (try simp only [Exit.inBlock,Exit.then])
 refine bodyPost_ret (v:=.agg #[.int .i64 7,.int .i32 0,.string ⟨#[]⟩,.string ⟨#[]⟩,.slice A1 ys1.length c1,.slice none 0 0,.slice none 0 0,.slice none 0 0,.int .i64 0]) (by simp [results,Tryz.results183,go_sem,z0,z1,z2,z3,z4,z5,z6,z7,z8]) rfl ?_
 rw [HRE.out]
 refine ⟨.st (7) (0) ⟨#[]⟩ ⟨#[]⟩ (.slice A1 ys1.length c1) (.slice none 0 0) (.slice none 0 0) (.slice none 0 0) ys1 [] [] [] 0,rfl,⟨_,_,_,_,A1,none,none,none,c1,0,0,0,ys1,[],[],[],rfl⟩,?_,Mv.over (Below.refl _ _) HM.out HG.out (Nat.le_refl _) hlt⟩
 exact ((ad8 (B:=w.heap.size+1) ⟨Nat.zero_le _,Nat.zero_le _⟩ HF1.out.fk (FkL.nil _ _ _) (FkL.nil _ _ _) (FkL.nil _ _ _) HQ1.out rfl rfl rfl).grown HG.out (.inl (by omega))).mono (by omega)
theorem stmt_throw (HE:abw) (HAR:adi) (n:Nat) (b:Rb) (HBL:agx n b) (hbl:∀ s,(b s).2.len≤s.len) (W0 w:World) (c:Nat) (s:RS) (hv:Vars W0) (h:Rd W0 c s w) (hn:4 * s.len≤n) (hv0:s.varB=false) (h0:s.sees 0 kIf=false) (h1:s.sees 0 adq=false) (h2:s.sees 0 aco=false) (h3:s.sees 0 aev=false) (h4:s.sees 0 adx=false) (h5:s.sees 0 agj=true):Calls Tryz.prog 183 #[.pointer (some ⟨c,0,none⟩)] w (StC W0 c w (stS b s)):=by
 obtain ⟨q,hq⟩:∃ q,af3 s.skip=q:=⟨_,rfl⟩
 have HRE:Hid (stS b s=(mkS 9 0 E0 E0 q.1 [] [] [],q.2)):=ke (by simp only [stS,hv0,h0,h1,h2,h3,h4,h5,hq];simp)
 obtain ⟨RR,hRR⟩:∃ RR,stS b s=RR:=⟨_,rfl⟩
 rw [hRR] at HRE ⊢
 have hlt:=h.lt
 have hle0:=h.le
 obtain ⟨W1,hW1⟩:∃ W1,w.alloc (.cells #[.int .i64 0,.int .i32 0,.string ⟨#[]⟩,.string ⟨#[]⟩,.slice none 0 0,.slice none 0 0,.slice none 0 0,.slice none 0 0,.int .i64 0] 141)=W1:=⟨_,rfl⟩
 have hb:Below w.heap.size w W1:=by rw [← hW1];exact (Below.refl _ w).alloc (Nat.le_refl _) _
 have hx:Bx W1 w.heap.size #[.int .i64 0,.int .i32 0,.string ⟨#[]⟩,.string ⟨#[]⟩,.slice none 0 0,.slice none 0 0,.slice none 0 0,.slice none 0 0,.int .i64 0] 141:=by rw [← hW1];exact Bx.new _ _ _
 have hz:W1.heap.size=w.heap.size+1:=by rw [← hW1];simp
 have HM:=ke (Mv.below hb h)
 have HB:=ke hx
 clear hb hx
 have V:=ke (show Calls Tryz.prog 197 #[.pointer (some ⟨c,0,none⟩)] W1 (fun e w'=>e=.returned (.bool false)∧W1=w') from by have:=afd W0 W1 c s HM.out.2;rw [hv0] at this;exact this)
 have T0:=ke (aaa W0 W1 c s kIf HM.out.2 h0)
 have T1:=ke (aaa W0 W1 c s adq HM.out.2 h1)
 have T2:=ke (aaa W0 W1 c s aco HM.out.2 h2)
 have T3:=ke (aaa W0 W1 c s aev HM.out.2 h3)
 have T4:=ke (aaa W0 W1 c s adx HM.out.2 h4)
 have T5:=ke (aa3 W0 W1 c s agj HM.out.2 h5)
 have HC:Hid (∀ w',Rd W0 c (s.skip) w'→Calls Tryz.prog 202 #[.pointer (some ⟨c,0,none⟩)] w' (LsC W0 c w' q)):=by
  show ∀ w',_
  intro w' h';have:=aj0 HE W0 w' c _ hv h';rw [hq] at this;exact this
 clear hRR hq h hv hn HE HAR HBL hbl hv0 h0 h1 h2 h3 h4 h5
 go_enter Tryz.func183,Tryz.ntmps183
 go_wp2_with fail
 refine V.out.mono ?_
 clear V
 rintro e w2 ⟨rfl,rfl⟩
 go_wp2_with fail
 refine T0.out.mono ?_
 clear T0
 rintro e w2 ⟨rfl,rfl⟩
 go_wp2_with fail
 refine T1.out.mono ?_
 clear T1
 rintro e w2 ⟨rfl,rfl⟩
 go_wp2_with fail
 refine T2.out.mono ?_
 clear T2
 rintro e w2 ⟨rfl,rfl⟩
 go_wp2_with fail
 refine T3.out.mono ?_
 clear T3
 rintro e w2 ⟨rfl,rfl⟩
 go_wp2_with fail
 refine T4.out.mono ?_
 clear T4
 rintro e w2 ⟨rfl,rfl⟩
 go_wp2_with fail
 refine T5.out.mono ?_
 clear T5 hW1
 rintro e w2 ⟨rfl,hm⟩
 replace HM:=ke (HM.out.trans hm)
 replace HB:=ke (Bx.grown HB.out hm.1 (by omega))
 have hs2:=hm.1.size
 clear hm
 go_wp2_with fail
 refine (HC.out _ HM.out.2).mono ?_
 clear HC
 rintro e w3 ⟨v1,ys1,rfl,ho,hq1,hm⟩
 obtain ⟨A1,c1,rfl⟩:=ho.form
 have hf1:=(FkL.x ho.own.fk).mono (show w.heap.size+1≤_ by omega)
 have HQ1:=ke hq1
 clear ho hq1
 replace HM:=ke (HM.out.trans hm)
 replace HB:=ke (Bx.grown HB.out hm.1 (by omega))
 have hs3:=hm.1.size
 clear hm
 have HF1:=ke hf1
 clear hf1
 obtain ⟨r0,r1,r2,r3,r4,r5,r6,r7,r8⟩:=HB.out.all_9
 have g0:=HB.out.fro 0;have g1:=HB.out.fro 1;have g2:=HB.out.fro 2;have g3:=HB.out.fro 3;have g4:=HB.out.fro 4;have g5:=HB.out.fro 5;have g6:=HB.out.fro 6;have g7:=HB.out.fro 7;have g8:=HB.out.fro 8
 have HG:=ke (acl w3 w.heap.size (.int .i64 9) (.int .i32 0) (.string ⟨#[]⟩) (.string ⟨#[]⟩) (.slice A1 ys1.length c1) (.slice none 0 0) (.slice none 0 0) (.slice none 0 0) (.int .i64 0))
 go_wp2_with fail
 obtain ⟨z0,z1,z2,z3,z4,z5,z6,z7,z8⟩:=(HB.out.to_9 (.int .i64 9) (.int .i32 0) (.string ⟨#[]⟩) (.string ⟨#[]⟩) (.slice A1 ys1.length c1) (.slice none 0 0) (.slice none 0 0) (.slice none 0 0) (.int .i64 0)).all_9
 (try simp only [Exit.inBlock,Exit.then])
 refine bodyPost_ret (v:=.agg #[.int .i64 9,.int .i32 0,.string ⟨#[]⟩,.string ⟨#[]⟩,.slice A1 ys1.length c1,.slice none 0 0,.slice none 0 0,.slice none 0 0,.int .i64 0]) (by simp [results,Tryz.results183,go_sem,z0,z1,z2,z3,z4,z5,z6,z7,z8]) rfl ?_
 rw [HRE.out]
 refine ⟨.st (9) (0) ⟨#[]⟩ ⟨#[]⟩ (.slice A1 ys1.length c1) (.slice none 0 0) (.slice none 0 0) (.slice none 0 0) ys1 [] [] [] 0,rfl,⟨_,_,_,_,A1,none,none,none,c1,0,0,0,ys1,[],[],[],rfl⟩,?_,Mv.over (Below.refl _ _) HM.out HG.out (Nat.le_refl _) hlt⟩
 exact ((ad8 (B:=w.heap.size+1) ⟨Nat.zero_le _,Nat.zero_le _⟩ HF1.out.fk (FkL.nil _ _ _) (FkL.nil _ _ _) (FkL.nil _ _ _) HQ1.out rfl rfl rfl).grown HG.out (.inl (by omega))).mono (by omega)
theorem stmt_assert (HE:abw) (HAR:adi) (n:Nat) (b:Rb) (HBL:agx n b) (hbl:∀ s,(b s).2.len≤s.len) (W0 w:World) (c:Nat) (s:RS) (hv:Vars W0) (h:Rd W0 c s w) (hn:4 * s.len≤n) (hv0:s.varB=false) (h0:s.sees 0 kIf=false) (h1:s.sees 0 adq=false) (h2:s.sees 0 aco=false) (h3:s.sees 0 aev=false) (h4:s.sees 0 adx=true):Calls Tryz.prog 183 #[.pointer (some ⟨c,0,none⟩)] w (StC W0 c w (stS b s)):=by
 obtain ⟨q,hq⟩:∃ q,af3 (s.skip.num 9999)=q:=⟨_,rfl⟩
 have HRE:Hid (stS b s=(mkS 8 (s.skip.numR 9999) E0 E0 q.1 [] [] [],q.2)):=ke (by simp only [stS,hv0,h0,h1,h2,h3,h4,hq];simp)
 obtain ⟨RR,hRR⟩:∃ RR,stS b s=RR:=⟨_,rfl⟩
 rw [hRR] at HRE ⊢
 have hlt:=h.lt
 have hle0:=h.le
 obtain ⟨W1,hW1⟩:∃ W1,w.alloc (.cells #[.int .i64 0,.int .i32 0,.string ⟨#[]⟩,.string ⟨#[]⟩,.slice none 0 0,.slice none 0 0,.slice none 0 0,.slice none 0 0,.int .i64 0] 141)=W1:=⟨_,rfl⟩
 have hb:Below w.heap.size w W1:=by rw [← hW1];exact (Below.refl _ w).alloc (Nat.le_refl _) _
 have hx:Bx W1 w.heap.size #[.int .i64 0,.int .i32 0,.string ⟨#[]⟩,.string ⟨#[]⟩,.slice none 0 0,.slice none 0 0,.slice none 0 0,.slice none 0 0,.int .i64 0] 141:=by rw [← hW1];exact Bx.new _ _ _
 have hz:W1.heap.size=w.heap.size+1:=by rw [← hW1];simp
 have HM:=ke (Mv.below hb h)
 have HB:=ke hx
 clear hb hx
 have V:=ke (show Calls Tryz.prog 197 #[.pointer (some ⟨c,0,none⟩)] W1 (fun e w'=>e=.returned (.bool false)∧W1=w') from by have:=afd W0 W1 c s HM.out.2;rw [hv0] at this;exact this)
 have T0:=ke (aaa W0 W1 c s kIf HM.out.2 h0)
 have T1:=ke (aaa W0 W1 c s adq HM.out.2 h1)
 have T2:=ke (aaa W0 W1 c s aco HM.out.2 h2)
 have T3:=ke (aaa W0 W1 c s aev HM.out.2 h3)
 have T4:=ke (aa3 W0 W1 c s adx HM.out.2 h4)
 have HNU:Hid (∀ w',Rd W0 c s.skip w'→Calls Tryz.prog 190 #[.pointer (some ⟨c,0,none⟩),.int .i64 9999] w' fun e w''=>e=.returned (.int .i32 (s.skip.numR 9999))∧Mv W0 c (s.skip.num 9999) w' w''):=by
  show ∀ w',_
  intro w' h';exact number_any W0 w' c _ 9999 hv h'
 have HC:Hid (∀ w',Rd W0 c (s.skip.num 9999) w'→Calls Tryz.prog 202 #[.pointer (some ⟨c,0,none⟩)] w' (LsC W0 c w' q)):=by
  show ∀ w',_
  intro w' h';have:=aj0 HE W0 w' c _ hv h';rw [hq] at this;exact this
 obtain ⟨nv,hnv⟩:∃ nv,s.skip.numR 9999=nv:=⟨_,rfl⟩
 rw [hnv] at HRE HNU
 clear hRR hq hnv h hv hn HE HAR HBL hbl hv0 h0 h1 h2 h3 h4
 go_enter Tryz.func183,Tryz.ntmps183
 go_wp2_with fail
 refine V.out.mono ?_
 clear V
 rintro e w2 ⟨rfl,rfl⟩
 go_wp2_with fail
 refine T0.out.mono ?_
 clear T0
 rintro e w2 ⟨rfl,rfl⟩
 go_wp2_with fail
 refine T1.out.mono ?_
 clear T1
 rintro e w2 ⟨rfl,rfl⟩
 go_wp2_with fail
 refine T2.out.mono ?_
 clear T2
 rintro e w2 ⟨rfl,rfl⟩
 go_wp2_with fail
 refine T3.out.mono ?_
 clear T3
 rintro e w2 ⟨rfl,rfl⟩
 go_wp2_with fail
 refine T4.out.mono ?_
 clear T4 hW1
 rintro e w2 ⟨rfl,hm⟩
 replace HM:=ke (HM.out.trans hm)
 replace HB:=ke (Bx.grown HB.out hm.1 (by omega))
 have hs2:=hm.1.size
 clear hm
 go_wp2_with fail
 refine (HNU.out _ HM.out.2).mono ?_
 clear HNU
 rintro e w3 ⟨rfl,hm⟩
 replace HM:=ke (HM.out.trans hm)
 replace HB:=ke (Bx.grown HB.out hm.1 (by omega))
 have hs3:=hm.1.size
 clear hm
 go_wp2_with fail
 refine (HC.out _ HM.out.2).mono ?_
 clear HC
 rintro e w4 ⟨v1,ys1,rfl,ho,hq1,hm⟩
 obtain ⟨A1,c1,rfl⟩:=ho.form
 have hf1:=(FkL.x ho.own.fk).mono (show w.heap.size+1≤_ by omega)
 have HQ1:=ke hq1
 clear ho hq1
 replace HM:=ke (HM.out.trans hm)
 replace HB:=ke (Bx.grown HB.out hm.1 (by omega))
 have hs4:=hm.1.size
 clear hm
 have HF1:=ke hf1
 clear hf1
 obtain ⟨r0,r1,r2,r3,r4,r5,r6,r7,r8⟩:=HB.out.all_9
 have g0:=HB.out.fro 0;have g1:=HB.out.fro 1;have g2:=HB.out.fro 2;have g3:=HB.out.fro 3;have g4:=HB.out.fro 4;have g5:=HB.out.fro 5;have g6:=HB.out.fro 6;have g7:=HB.out.fro 7;have g8:=HB.out.fro 8
 have HG:=ke (acl w4 w.heap.size (.int .i64 8) (.int .i32 nv) (.string ⟨#[]⟩) (.string ⟨#[]⟩) (.slice A1 ys1.length c1) (.slice none 0 0) (.slice none 0 0) (.slice none 0 0) (.int .i64 0))
 go_wp2_with fail
 obtain ⟨z0,z1,z2,z3,z4,z5,z6,z7,z8⟩:=(HB.out.to_9 (.int .i64 8) (.int .i32 nv) (.string ⟨#[]⟩) (.string ⟨#[]⟩) (.slice A1 ys1.length c1) (.slice none 0 0) (.slice none 0 0) (.slice none 0 0) (.int .i64 0)).all_9
 (try simp only [Exit.inBlock,Exit.then])
 refine bodyPost_ret (v:=.agg #[.int .i64 8,.int .i32 nv,.string ⟨#[]⟩,.string ⟨#[]⟩,.slice A1 ys1.length c1,.slice none 0 0,.slice none 0 0,.slice none 0 0,.int .i64 0]) (by simp [results,Tryz.results183,go_sem,z0,z1,z2,z3,z4,z5,z6,z7,z8]) rfl ?_
 rw [HRE.out]
 refine ⟨.st (8) (nv) ⟨#[]⟩ ⟨#[]⟩ (.slice A1 ys1.length c1) (.slice none 0 0) (.slice none 0 0) (.slice none 0 0) ys1 [] [] [] 0,rfl,⟨_,_,_,_,A1,none,none,none,c1,0,0,0,ys1,[],[],[],rfl⟩,?_,Mv.over (Below.refl _ _) HM.out HG.out (Nat.le_refl _) hlt⟩
 exact ((ad8 (B:=w.heap.size+1) ⟨Nat.zero_le _,Nat.zero_le _⟩ HF1.out.fk (FkL.nil _ _ _) (FkL.nil _ _ _) (FkL.nil _ _ _) HQ1.out rfl rfl rfl).grown HG.out (.inl (by omega))).mono (by omega)
theorem stmt_super (HE:abw) (HAR:adi) (n:Nat) (b:Rb) (HBL:agx n b) (hbl:∀ s,(b s).2.len≤s.len) (W0 w:World) (c:Nat) (s:RS) (hv:Vars W0) (h:Rd W0 c s w) (hn:4 * s.len≤n) (hv0:s.varB=false) (h0:s.sees 0 kIf=false) (h1:s.sees 0 adq=false) (h2:s.sees 0 aco=false) (h3:s.sees 0 aev=false) (h4:s.sees 0 adx=false) (h5:s.sees 0 agj=false) (h6:s.sees 0 kTry=false) (h7:s.sees 0 abp=true) (h8:s.sees 1 aah=true):Calls Tryz.prog 183 #[.pointer (some ⟨c,0,none⟩)] w (StC W0 c w (stS b s)):=by
 have HRE:Hid (stS b s=supS s):=ke (by simp only [stS,hv0,h0,h1,h2,h3,h4,h5,h6,h7,h8];simp)
 obtain ⟨RR,hRR⟩:∃ RR,stS b s=RR:=⟨_,rfl⟩
 rw [hRR] at HRE ⊢
 have hlt:=h.lt
 have hle0:=h.le
 obtain ⟨W1,hW1⟩:∃ W1,w.alloc (.cells #[.int .i64 0,.int .i32 0,.string ⟨#[]⟩,.string ⟨#[]⟩,.slice none 0 0,.slice none 0 0,.slice none 0 0,.slice none 0 0,.int .i64 0] 141)=W1:=⟨_,rfl⟩
 have hb:Below w.heap.size w W1:=by rw [← hW1];exact (Below.refl _ w).alloc (Nat.le_refl _) _
 have hx:Bx W1 w.heap.size #[.int .i64 0,.int .i32 0,.string ⟨#[]⟩,.string ⟨#[]⟩,.slice none 0 0,.slice none 0 0,.slice none 0 0,.slice none 0 0,.int .i64 0] 141:=by rw [← hW1];exact Bx.new _ _ _
 have hz:W1.heap.size=w.heap.size+1:=by rw [← hW1];simp
 have HM:=ke (Mv.below hb h)
 have HB:=ke hx
 clear hb hx
 have V:=ke (show Calls Tryz.prog 197 #[.pointer (some ⟨c,0,none⟩)] W1 (fun e w'=>e=.returned (.bool false)∧W1=w') from by have:=afd W0 W1 c s HM.out.2;rw [hv0] at this;exact this)
 have T0:=ke (aaa W0 W1 c s kIf HM.out.2 h0)
 have T1:=ke (aaa W0 W1 c s adq HM.out.2 h1)
 have T2:=ke (aaa W0 W1 c s aco HM.out.2 h2)
 have T3:=ke (aaa W0 W1 c s aev HM.out.2 h3)
 have T4:=ke (aaa W0 W1 c s adx HM.out.2 h4)
 have T5:=ke (aaa W0 W1 c s agj HM.out.2 h5)
 have T6:=ke (aaa W0 W1 c s kTry HM.out.2 h6)
 have T7:=ke (adk W0 W1 c s abp _ HM.out.2 h7)
 have T8:=ke (show Calls Tryz.prog 159 #[.pointer (some ⟨c,0,none⟩),.int .i64 1,.string aah] W1 (fun e w'=>e=.returned (.bool true)∧W1=w') from by have:=af9 W0 W1 c 1 s aah HM.out.2 (by omega);rw [h8] at this;exact this)
 have HS:Hid (∀ w',Rd W0 c (s) w'→Calls Tryz.prog 204 #[.pointer (some ⟨c,0,none⟩)] w' (StC W0 c w' RR)):=by
  show ∀ w',_
  intro w' h';have:=super_of HAR W0 w' c _ hv h' (sees_ne h7);rw [HRE.out];exact this
 clear hRR h hv hn HE HAR HBL hbl hv0 h0 h1 h2 h3 h4 h5 h6 h7 h8
 go_enter Tryz.func183,Tryz.ntmps183
 go_wp2_with fail
 refine V.out.mono ?_
 clear V
 rintro e w2 ⟨rfl,rfl⟩
 go_wp2_with fail
 refine T0.out.mono ?_
 clear T0
 rintro e w2 ⟨rfl,rfl⟩
 go_wp2_with fail
 refine T1.out.mono ?_
 clear T1
 rintro e w2 ⟨rfl,rfl⟩
 go_wp2_with fail
 refine T2.out.mono ?_
 clear T2
 rintro e w2 ⟨rfl,rfl⟩
 go_wp2_with fail
 refine T3.out.mono ?_
 clear T3
 rintro e w2 ⟨rfl,rfl⟩
 go_wp2_with fail
 refine T4.out.mono ?_
 clear T4
 rintro e w2 ⟨rfl,rfl⟩
 go_wp2_with fail
 refine T5.out.mono ?_
 clear T5
 rintro e w2 ⟨rfl,rfl⟩
 go_wp2_with fail
 refine T6.out.mono ?_
 clear T6
 rintro e w2 ⟨rfl,rfl⟩
 go_wp2_with fail
 refine T7.out.mono ?_
 clear T7
 rintro e w2 ⟨rfl,rfl⟩
 go_wp2_with fail
 refine T8.out.mono ?_
 clear T8
 rintro e w2 ⟨rfl,rfl⟩
 go_wp2_with fail
 refine (HS.out _ HM.out.2).mono ?_
 clear HS hW1
 intro e w3 hst
 obtain ⟨k,m,ty,nm,A1,A2,A3,A4,c1,c2,c3,c4,l1,l2,l3,l4,rfl,hk,hm⟩:=hst.open
 clear hst
 have HK:=ke (hk.mono (show w.heap.size+1≤_ by omega))
 replace HB:=ke (Bx.grown HB.out hm.1 (by omega))
 replace HM:=ke (HM.out.trans hm)
 clear hk hm
 obtain ⟨r0,r1,r2,r3,r4,r5,r6,r7,r8⟩:=HB.out.all_9
 have g0:=HB.out.fro 0;have g1:=HB.out.fro 1;have g2:=HB.out.fro 2;have g3:=HB.out.fro 3;have g4:=HB.out.fro 4;have g5:=HB.out.fro 5;have g6:=HB.out.fro 6;have g7:=HB.out.fro 7;have g8:=HB.out.fro 8
 have HG:=ke (acl w3 w.heap.size (.int .i64 k) (.int .i32 m) (.string ty) (.string nm) (.slice A1 l1.length c1) (.slice A2 l2.length c2) (.slice A3 l3.length c3) (.slice A4 l4.length c4) (.int .i64 0))
 go_wp2_with fail
 obtain ⟨z0,z1,z2,z3,z4,z5,z6,z7,z8⟩:=(HB.out.to_9 (.int .i64 k) (.int .i32 m) (.string ty) (.string nm) (.slice A1 l1.length c1) (.slice A2 l2.length c2) (.slice A3 l3.length c3) (.slice A4 l4.length c4) (.int .i64 0)).all_9
 (try simp only [Exit.inBlock,Exit.then])
 refine bodyPost_ret (v:=.agg #[.int .i64 k,.int .i32 m,.string ty,.string nm,.slice A1 l1.length c1,.slice A2 l2.length c2,.slice A3 l3.length c3,.slice A4 l4.length c4,.int .i64 0]) (by simp [results,Tryz.results183,go_sem,z0,z1,z2,z3,z4,z5,z6,z7,z8]) rfl ?_
 exact ⟨_,rfl,⟨_,_,_,_,_,_,_,_,_,_,_,_,_,_,_,_,rfl⟩,(HK.out.grown HG.out (.inl (by omega))).mono (by omega),Mv.over (Below.refl _ _) HM.out HG.out (Nat.le_refl _) hlt⟩
theorem stmt_plainS (HE:abw) (HAR:adi) (n:Nat) (b:Rb) (HBL:agx n b) (hbl:∀ s,(b s).2.len≤s.len) (W0 w:World) (c:Nat) (s:RS) (hv:Vars W0) (h:Rd W0 c s w) (hn:4 * s.len≤n) (hv0:s.varB=false) (h0:s.sees 0 kIf=false) (h1:s.sees 0 adq=false) (h2:s.sees 0 aco=false) (h3:s.sees 0 aev=false) (h4:s.sees 0 adx=false) (h5:s.sees 0 agj=false) (h6:s.sees 0 kTry=false) (h7:s.sees 0 abp=true) (h8:s.sees 1 aah=false):Calls Tryz.prog 183 #[.pointer (some ⟨c,0,none⟩)] w (StC W0 c w (stS b s)):=by
 have HRE:Hid (stS b s=plaS s):=ke (by simp only [stS,hv0,h0,h1,h2,h3,h4,h5,h6,h7,h8];simp)
 obtain ⟨RR,hRR⟩:∃ RR,stS b s=RR:=⟨_,rfl⟩
 rw [hRR] at HRE ⊢
 have hlt:=h.lt
 have hle0:=h.le
 obtain ⟨W1,hW1⟩:∃ W1,w.alloc (.cells #[.int .i64 0,.int .i32 0,.string ⟨#[]⟩,.string ⟨#[]⟩,.slice none 0 0,.slice none 0 0,.slice none 0 0,.slice none 0 0,.int .i64 0] 141)=W1:=⟨_,rfl⟩
 have hb:Below w.heap.size w W1:=by rw [← hW1];exact (Below.refl _ w).alloc (Nat.le_refl _) _
 have hx:Bx W1 w.heap.size #[.int .i64 0,.int .i32 0,.string ⟨#[]⟩,.string ⟨#[]⟩,.slice none 0 0,.slice none 0 0,.slice none 0 0,.slice none 0 0,.int .i64 0] 141:=by rw [← hW1];exact Bx.new _ _ _
 have hz:W1.heap.size=w.heap.size+1:=by rw [← hW1];simp
 have HM:=ke (Mv.below hb h)
 have HB:=ke hx
 clear hb hx
 have V:=ke (show Calls Tryz.prog 197 #[.pointer (some ⟨c,0,none⟩)] W1 (fun e w'=>e=.returned (.bool false)∧W1=w') from by have:=afd W0 W1 c s HM.out.2;rw [hv0] at this;exact this)
 have T0:=ke (aaa W0 W1 c s kIf HM.out.2 h0)
 have T1:=ke (aaa W0 W1 c s adq HM.out.2 h1)
 have T2:=ke (aaa W0 W1 c s aco HM.out.2 h2)
 have T3:=ke (aaa W0 W1 c s aev HM.out.2 h3)
 have T4:=ke (aaa W0 W1 c s adx HM.out.2 h4)
 have T5:=ke (aaa W0 W1 c s agj HM.out.2 h5)
 have T6:=ke (aaa W0 W1 c s kTry HM.out.2 h6)
 have T7:=ke (adk W0 W1 c s abp _ HM.out.2 h7)
 have T8:=ke (show Calls Tryz.prog 159 #[.pointer (some ⟨c,0,none⟩),.int .i64 1,.string aah] W1 (fun e w'=>e=.returned (.bool false)∧W1=w') from by have:=af9 W0 W1 c 1 s aah HM.out.2 (by omega);rw [h8] at this;exact this)
 have HS:Hid (∀ w',Rd W0 c (s) w'→Calls Tryz.prog 205 #[.pointer (some ⟨c,0,none⟩)] w' (StC W0 c w' RR)):=by
  show ∀ w',_
  intro w' h';have:=plainS_of HE W0 w' c _ hv h';rw [HRE.out];exact this
 clear hRR h hv hn HE HAR HBL hbl hv0 h0 h1 h2 h3 h4 h5 h6 h7 h8
 go_enter Tryz.func183,Tryz.ntmps183
 go_wp2_with fail
 refine V.out.mono ?_
 clear V
 rintro e w2 ⟨rfl,rfl⟩
 go_wp2_with fail
 refine T0.out.mono ?_
 clear T0
 rintro e w2 ⟨rfl,rfl⟩
 go_wp2_with fail
 refine T1.out.mono ?_
 clear T1
 rintro e w2 ⟨rfl,rfl⟩
 go_wp2_with fail
 refine T2.out.mono ?_
 clear T2
 rintro e w2 ⟨rfl,rfl⟩
 go_wp2_with fail
 refine T3.out.mono ?_
 clear T3
 rintro e w2 ⟨rfl,rfl⟩
 go_wp2_with fail
 refine T4.out.mono ?_
 clear T4
 rintro e w2 ⟨rfl,rfl⟩
 go_wp2_with fail
 refine T5.out.mono ?_
 clear T5
 rintro e w2 ⟨rfl,rfl⟩
 go_wp2_with fail
 refine T6.out.mono ?_
 clear T6
 rintro e w2 ⟨rfl,rfl⟩
 go_wp2_with fail
 refine T7.out.mono ?_
 clear T7
 rintro e w2 ⟨rfl,rfl⟩
 go_wp2_with fail
 refine T8.out.mono ?_
 clear T8
 rintro e w2 ⟨rfl,rfl⟩
 go_wp2_with fail
 refine (HS.out _ HM.out.2).mono ?_
 clear HS hW1
 intro e w3 hst
 obtain ⟨k,m,ty,nm,A1,A2,A3,A4,c1,c2,c3,c4,l1,l2,l3,l4,rfl,hk,hm⟩:=hst.open
 clear hst
 have HK:=ke (hk.mono (show w.heap.size+1≤_ by omega))
 replace HB:=ke (Bx.grown HB.out hm.1 (by omega))
 replace HM:=ke (HM.out.trans hm)
 clear hk hm
 obtain ⟨r0,r1,r2,r3,r4,r5,r6,r7,r8⟩:=HB.out.all_9
 have g0:=HB.out.fro 0;have g1:=HB.out.fro 1;have g2:=HB.out.fro 2;have g3:=HB.out.fro 3;have g4:=HB.out.fro 4;have g5:=HB.out.fro 5;have g6:=HB.out.fro 6;have g7:=HB.out.fro 7;have g8:=HB.out.fro 8
 have HG:=ke (acl w3 w.heap.size (.int .i64 k) (.int .i32 m) (.string ty) (.string nm) (.slice A1 l1.length c1) (.slice A2 l2.length c2) (.slice A3 l3.length c3) (.slice A4 l4.length c4) (.int .i64 0))
 go_wp2_with fail
 obtain ⟨z0,z1,z2,z3,z4,z5,z6,z7,z8⟩:=(HB.out.to_9 (.int .i64 k) (.int .i32 m) (.string ty) (.string nm) (.slice A1 l1.length c1) (.slice A2 l2.length c2) (.slice A3 l3.length c3) (.slice A4 l4.length c4) (.int .i64 0)).all_9
 (try simp only [Exit.inBlock,Exit.then])
 refine bodyPost_ret (v:=.agg #[.int .i64 k,.int .i32 m,.string ty,.string nm,.slice A1 l1.length c1,.slice A2 l2.length c2,.slice A3 l3.length c3,.slice A4 l4.length c4,.int .i64 0]) (by simp [results,Tryz.results183,go_sem,z0,z1,z2,z3,z4,z5,z6,z7,z8]) rfl ?_
 exact ⟨_,rfl,⟨_,_,_,_,_,_,_,_,_,_,_,_,_,_,_,_,rfl⟩,(HK.out.grown HG.out (.inl (by omega))).mono (by omega),Mv.over (Below.refl _ _) HM.out HG.out (Nat.le_refl _) hlt⟩
theorem stmt_plain (HE:abw) (HAR:adi) (n:Nat) (b:Rb) (HBL:agx n b) (hbl:∀ s,(b s).2.len≤s.len) (W0 w:World) (c:Nat) (s:RS) (hv:Vars W0) (h:Rd W0 c s w) (hn:4 * s.len≤n) (hv0:s.varB=false) (h0:s.sees 0 kIf=false) (h1:s.sees 0 adq=false) (h2:s.sees 0 aco=false) (h3:s.sees 0 aev=false) (h4:s.sees 0 adx=false) (h5:s.sees 0 agj=false) (h6:s.sees 0 kTry=false) (h7:s.sees 0 abp=false):Calls Tryz.prog 183 #[.pointer (some ⟨c,0,none⟩)] w (StC W0 c w (stS b s)):=by
 have HRE:Hid (stS b s=plaS s):=ke (by simp only [stS,hv0,h0,h1,h2,h3,h4,h5,h6,h7];simp)
 obtain ⟨RR,hRR⟩:∃ RR,stS b s=RR:=⟨_,rfl⟩
 rw [hRR] at HRE ⊢
 have hlt:=h.lt
 have hle0:=h.le
 obtain ⟨W1,hW1⟩:∃ W1,w.alloc (.cells #[.int .i64 0,.int .i32 0,.string ⟨#[]⟩,.string ⟨#[]⟩,.slice none 0 0,.slice none 0 0,.slice none 0 0,.slice none 0 0,.int .i64 0] 141)=W1:=⟨_,rfl⟩
 have hb:Below w.heap.size w W1:=by rw [← hW1];exact (Below.refl _ w).alloc (Nat.le_refl _) _
 have hx:Bx W1 w.heap.size #[.int .i64 0,.int .i32 0,.string ⟨#[]⟩,.string ⟨#[]⟩,.slice none 0 0,.slice none 0 0,.slice none 0 0,.slice none 0 0,.int .i64 0] 141:=by rw [← hW1];exact Bx.new _ _ _
 have hz:W1.heap.size=w.heap.size+1:=by rw [← hW1];simp
 have HM:=ke (Mv.below hb h)
 have HB:=ke hx
 clear hb hx
 have V:=ke (show Calls Tryz.prog 197 #[.pointer (some ⟨c,0,none⟩)] W1 (fun e w'=>e=.returned (.bool false)∧W1=w') from by have:=afd W0 W1 c s HM.out.2;rw [hv0] at this;exact this)
 have T0:=ke (aaa W0 W1 c s kIf HM.out.2 h0)
 have T1:=ke (aaa W0 W1 c s adq HM.out.2 h1)
 have T2:=ke (aaa W0 W1 c s aco HM.out.2 h2)
 have T3:=ke (aaa W0 W1 c s aev HM.out.2 h3)
 have T4:=ke (aaa W0 W1 c s adx HM.out.2 h4)
 have T5:=ke (aaa W0 W1 c s agj HM.out.2 h5)
 have T6:=ke (aaa W0 W1 c s kTry HM.out.2 h6)
 have T7:=ke (adk W0 W1 c s abp _ HM.out.2 h7)
 have HS:Hid (∀ w',Rd W0 c (s) w'→Calls Tryz.prog 205 #[.pointer (some ⟨c,0,none⟩)] w' (StC W0 c w' RR)):=by
  show ∀ w',_
  intro w' h';have:=plainS_of HE W0 w' c _ hv h';rw [HRE.out];exact this
 clear hRR h hv hn HE HAR HBL hbl hv0 h0 h1 h2 h3 h4 h5 h6 h7
 go_enter Tryz.func183,Tryz.ntmps183
 go_wp2_with fail
 refine V.out.mono ?_
 clear V
 rintro e w2 ⟨rfl,rfl⟩
 go_wp2_with fail
 refine T0.out.mono ?_
 clear T0
 rintro e w2 ⟨rfl,rfl⟩
 go_wp2_with fail
 refine T1.out.mono ?_
 clear T1
 rintro e w2 ⟨rfl,rfl⟩
 go_wp2_with fail
 refine T2.out.mono ?_
 clear T2
 rintro e w2 ⟨rfl,rfl⟩
 go_wp2_with fail
 refine T3.out.mono ?_
 clear T3
 rintro e w2 ⟨rfl,rfl⟩
 go_wp2_with fail
 refine T4.out.mono ?_
 clear T4
 rintro e w2 ⟨rfl,rfl⟩
 go_wp2_with fail
 refine T5.out.mono ?_
 clear T5
 rintro e w2 ⟨rfl,rfl⟩
 go_wp2_with fail
 refine T6.out.mono ?_
 clear T6
 rintro e w2 ⟨rfl,rfl⟩
 go_wp2_with fail
 refine T7.out.mono ?_
 clear T7
 rintro e w2 ⟨rfl,rfl⟩
 go_wp2_with fail
 refine (HS.out _ HM.out.2).mono ?_
 clear HS hW1
 intro e w3 hst
 obtain ⟨k,m,ty,nm,A1,A2,A3,A4,c1,c2,c3,c4,l1,l2,l3,l4,rfl,hk,hm⟩:=hst.open
 clear hst
 have HK:=ke (hk.mono (show w.heap.size+1≤_ by omega))
 replace HB:=ke (Bx.grown HB.out hm.1 (by omega))
 replace HM:=ke (HM.out.trans hm)
 clear hk hm
 obtain ⟨r0,r1,r2,r3,r4,r5,r6,r7,r8⟩:=HB.out.all_9
 have g0:=HB.out.fro 0;have g1:=HB.out.fro 1;have g2:=HB.out.fro 2;have g3:=HB.out.fro 3;have g4:=HB.out.fro 4;have g5:=HB.out.fro 5;have g6:=HB.out.fro 6;have g7:=HB.out.fro 7;have g8:=HB.out.fro 8
 have HG:=ke (acl w3 w.heap.size (.int .i64 k) (.int .i32 m) (.string ty) (.string nm) (.slice A1 l1.length c1) (.slice A2 l2.length c2) (.slice A3 l3.length c3) (.slice A4 l4.length c4) (.int .i64 0))
 go_wp2_with fail
 obtain ⟨z0,z1,z2,z3,z4,z5,z6,z7,z8⟩:=(HB.out.to_9 (.int .i64 k) (.int .i32 m) (.string ty) (.string nm) (.slice A1 l1.length c1) (.slice A2 l2.length c2) (.slice A3 l3.length c3) (.slice A4 l4.length c4) (.int .i64 0)).all_9
 (try simp only [Exit.inBlock,Exit.then])
 refine bodyPost_ret (v:=.agg #[.int .i64 k,.int .i32 m,.string ty,.string nm,.slice A1 l1.length c1,.slice A2 l2.length c2,.slice A3 l3.length c3,.slice A4 l4.length c4,.int .i64 0]) (by simp [results,Tryz.results183,go_sem,z0,z1,z2,z3,z4,z5,z6,z7,z8]) rfl ?_
 exact ⟨_,rfl,⟨_,_,_,_,_,_,_,_,_,_,_,_,_,_,_,_,rfl⟩,(HK.out.grown HG.out (.inl (by omega))).mono (by omega),Mv.over (Below.refl _ _) HM.out HG.out (Nat.le_refl _) hlt⟩
theorem stmt_of (HE:abw) (HAR:adi) (n:Nat) (b:Rb) (HBL:agx n b) (hbl:∀ s,(b s).2.len≤s.len) (W0 w:World) (c:Nat) (s:RS) (hv:Vars W0) (h:Rd W0 c s w) (hn:4 * s.len≤n):Calls Tryz.prog 183 #[.pointer (some ⟨c,0,none⟩)] w (StC W0 c w (stS b s)):=by
 cases hv0:s.varB with
 | true=>exact stmt_var HE HAR n b HBL hbl W0 w c s hv h hn hv0
 | false =>
  cases h0:s.sees 0 kIf with
  | true=>exact stmt_if HE HAR n b HBL hbl W0 w c s hv h hn hv0 h0
  | false =>
   cases h1:s.sees 0 adq with
   | true=>exact stmt_while HE HAR n b HBL hbl W0 w c s hv h hn hv0 h0 h1
   | false =>
    cases h2:s.sees 0 aco with
    | true=>exact stmt_return HE HAR n b HBL hbl W0 w c s hv h hn hv0 h0 h1 h2
    | false =>
     cases h3:s.sees 0 aev with
     | true=>exact stmt_print HE HAR n b HBL hbl W0 w c s hv h hn hv0 h0 h1 h2 h3
     | false =>
      cases h4:s.sees 0 adx with
      | true=>exact stmt_assert HE HAR n b HBL hbl W0 w c s hv h hn hv0 h0 h1 h2 h3 h4
      | false =>
       cases h5:s.sees 0 agj with
       | true=>exact stmt_throw HE HAR n b HBL hbl W0 w c s hv h hn hv0 h0 h1 h2 h3 h4 h5
       | false =>
        cases h6:s.sees 0 kTry with
        | true=>exact stmt_try HE HAR n b HBL hbl W0 w c s hv h hn hv0 h0 h1 h2 h3 h4 h5 h6
        | false =>
         cases h7:s.sees 0 abp with
         | false=>exact stmt_plain HE HAR n b HBL hbl W0 w c s hv h hn hv0 h0 h1 h2 h3 h4 h5 h6 h7
         | true =>
          cases h8:s.sees 1 aah with
          | true=>exact stmt_super HE HAR n b HBL hbl W0 w c s hv h hn hv0 h0 h1 h2 h3 h4 h5 h6 h7 h8
          | false=>exact stmt_plainS HE HAR n b HBL hbl W0 w c s hv h hn hv0 h0 h1 h2 h3 h4 h5 h6 h7 h8
end
section
open Go.RowKit
def aje (x:Wd):Prop:=1≤x.k∧x.k≤4∧(x.k=1→alL x.t=true∧x.t≠[])∧(x.k=2→digL x.t∧x.t≠[])∧x.t.length≤32000
theorem span_all (f:Int→Bool) (l:List UInt8):∀ c ∈ l.take (aa2 f l),f (c.toNat:Int)=true:=by
 have e:l.take (aa2 f l)=l.takeWhile (fun b=>f (b.toNat:Int)):=by
  unfold aa2
  exact (List.prefix_iff_eq_take.1 (List.takeWhile_prefix _)).symm
 rw [e]
 have h:=List.all_takeWhile (p:=fun b:UInt8=>f (b.toNat:Int)) (l:=l)
 rw [List.all_eq_true] at h
 exact h
theorem first_well (l:List UInt8) (h:(aao l).2.2≠0):((aao l).1=1→alL (aao l).2.1=true∧(aao l).2.1≠[])∧((aao l).1=2→digL (aao l).2.1∧(aao l).2.1≠[]):=by
 have d1:=aij aa7 l
 have d2:=aij aa1 l
 unfold aao at *
 by_cases a1:0 < aa2 aa7 l
 ·rw [if_pos a1]
  refine ⟨fun e=>by simp at e,fun _=>⟨fun c hc=>?_,?_⟩⟩
  ·have:=span_all aa7 l c hc
   simp only [aa7,Bool.and_eq_true,decide_eq_true_eq] at this
   omega
  ·intro e
   have e':l.take (aa2 aa7 l)=[]:=e
   have:(l.take (aa2 aa7 l)).length=0:=by rw [e'];rfl
   rw [List.length_take] at this;omega
 ·rw [if_neg a1] at h ⊢
  by_cases a2:0 < aa2 aa1 l
  ·rw [if_pos a2]
   refine ⟨fun _=>⟨List.all_eq_true.2 (span_all aa1 l),?_⟩,fun e=>by simp at e⟩
   intro e
   have e':l.take (aa2 aa1 l)=[]:=e
   have:(l.take (aa2 aa1 l)).length=0:=by rw [e'];rfl
   rw [List.length_take] at this;omega
  ·rw [if_neg a2] at h ⊢
   by_cases a3:0 < aav l
   ·rw [if_pos a3] at h ⊢
    split
    ·exact ⟨fun e=>by simp at e,fun e=>by simp at e⟩
    ·exact ⟨fun e=>by simp at e,fun e=>by simp at e⟩
   ·rw [if_neg a3]
    exact ⟨fun e=>by simp at e,fun e=>by simp at e⟩
theorem words_well (l:List UInt8) (a:Nat):∀ x ∈ (ach l a).1,(x.k=1→alL x.t=true∧x.t≠[])∧(x.k=2→digL x.t∧x.t≠[]):=by
 refine ag4 (fun l a r=>∀ x ∈ r.1,(x.k=1→alL x.t=true∧x.t≠[])∧(x.k=2→digL x.t∧x.t≠[])) (fun a=>by simp) (fun l a _ _=>by simp) ?_ _ l a (Nat.le_refl _)
 intro l a hl hn ih x hx
 rcases List.mem_cons.1 hx with rfl|hx
 ·exact first_well l hn
 ·exact ih x hx
theorem chain_kind (s:ByteArray):∀ (l:List Wd) (e:Nat),chain s e l→∀ x ∈ l,1≤x.k∧x.k≤4
 | [],_,_=>fun x hx=>by simp at hx
 | y :: t,e,h=>fun x hx=>by
  rcases List.mem_cons.1 hx with rfl|hx
  ·exact ⟨h.2.2.1,h.2.2.2.1⟩
  ·rcases h.2.2.2.2 with ⟨_,_,h⟩|⟨_,_,_,_,h⟩<;>exact chain_kind s t _ h x hx
theorem ah8 (s:ByteArray):∀ x ∈ afv s,aje x:=by
 intro x hx
 have h1:=chain_kind s _ _ (all_chain s) x hx
 have h2:=all_texts s x hx
 unfold afv at hx
 split at hx
 ·cases hx
 ·have h3:=words_well _ _ x hx
  exact ⟨h1.1,h1.2,h3.1,h3.2,h2⟩
structure QS where
 k:Nat
 bd:Int
 wh:Int
 dp:Int
 lt:Bool
 la:Int
def whQ (L:List Wd) (n:Int) (k:Nat):Int:=match L[k]? with|some x=>(x.a:Int)|none=>n
def Rel (L:List Wd) (n:Int) (q:QS) (s:RS):Prop :=
 s.sz=n∧q.k≤L.length∧(s.wc=0→q.bd=0∧s.ws=(L.drop q.k).map afr∧q.dp=s.op∧0≤s.op∧s.op≤41)∧(s.wc≠0→q.bd=s.wc∧q.wh=s.wa∧s.ws=[])∧(q.lt=true→s.lc=3∧q.la=s.la)∧(q.lt=false→s.lc=0)
variable {L:List Wd} {n:Int} {q:QS} {s:RS}
theorem Rel.bad (h:Rel L n q s):q.bd=s.wc:=by
 by_cases h0:s.wc=0
 ·rw [(h.2.2.1 h0).1,h0]
 ·exact (h.2.2.2.1 h0).1
theorem Rel.word (h:Rel L n q s) (h0:s.wc=0) (j:Nat):s.ws[j]?=(L[q.k+j]?).map afr:=by
 rw [(h.2.2.1 h0).2.1,List.getElem?_map,List.getElem?_drop]
theorem Rel.noword (h:Rel L n q s) (h0:s.wc≠0) (j:Nat):s.ws[j]?=none:=by rw [(h.2.2.2.1 h0).2.2];rfl
theorem Rel.at (h:Rel L n q s) (h0:s.wc=0):s.at=whQ L n q.k:=by
 have h1:=h.word h0 0
 unfold RS.at whQ
 rw [Nat.add_zero] at h1
 cases hw:s.ws with
 | nil =>
  rw [hw] at h1
  cases hl:L[q.k]? with
  | none=>exact h.1
  | some x=>rw [hl] at h1;simp at h1
 | cons y r =>
  rw [hw] at h1
  cases hl:L[q.k]? with
  | none=>rw [hl] at h1;simp at h1
  | some x =>
   rw [hl] at h1
   simp at h1
   rw [h1];rfl
def QS.fail (q:QS) (L:List Wd) (n:Int) (c:Int):QS:=if q.bd=0 then { q with bd:=c,wh:=whQ L n q.k } else q
theorem Rel.fail (h:Rel L n q s) {c:Int} (hc:c≠0):Rel L n (q.fail L n c) (s.fail c):=by
 have hb:=h.bad
 by_cases h0:s.wc=0
 ·have e1:s.fail c={ s with ws:=[],wc:=c,wa:=s.at }:=by unfold RS.fail;rw [if_pos h0]
  have e2:q.fail L n c={ q with bd:=c,wh:=whQ L n q.k }:=by unfold QS.fail;rw [if_pos (hb.trans h0)]
  rw [e1,e2]
  exact ⟨h.1,h.2.1,fun e=>absurd e hc,fun _=>⟨rfl,(h.at h0).symm,rfl⟩,h.2.2.2.2⟩
 ·have e1:s.fail c={ s with ws:=[] }:=by unfold RS.fail;rw [if_neg h0]
  have e2:q.fail L n c=q:=by unfold QS.fail;rw [if_neg (by rw [hb];exact h0)]
  rw [e1,e2]
  exact ⟨h.1,h.2.1,fun e=>absurd e h0,fun _=>⟨(h.2.2.2.1 h0).1,(h.2.2.2.1 h0).2.1,rfl⟩,h.2.2.2.2⟩
theorem Rel.skip (h:Rel L n q s) (h0:s.wc=0) (hk:q.k < L.length):Rel L n { q with k:=q.k+1 } s.skip:=by
 obtain ⟨a1,a2,a3,a4⟩:=h.2.2.1 h0
 refine ⟨h.1,hk,fun _=>⟨a1,?_,a3,a4⟩,fun e=>absurd h0 e,h.2.2.2.2⟩
 show s.ws.drop 1=_
 rw [a2,← List.map_drop,List.drop_drop]
def fxW (x:Wd) (p:ByteArray):Bool:=(x.k == 4 || x.k == 1) && x.t == p.data.toList
def ajh (p:ByteArray):Prop:=∃ t,letP p=.fx t
theorem seesP_fx {x:Wd} {p:ByteArray} (hw:aje x) (hp:ajh p):aik p (some (afr x))=fxW x p:=by
 have hl:∀ t:ByteArray,t.toList=t.data.toList:=fun t=>by rw [ByteArray.toList_eq]
 obtain ⟨h1,h2,_⟩:=hw
 obtain ⟨t0,ht0⟩:=hp
 unfold afr afo fxW
 by_cases k1:x.k=1
 ·rw [if_pos k1]
  by_cases he:x.t=p.data.toList
  ·have e:(⟨x.t.toArray⟩:ByteArray)=p:=by rw [he]
   rw [e]
   have:letP p=.fx p:=by
    have e2:=ht0
    unfold letP at e2 ⊢
    split at e2
    ·cases e2
    ·split at e2
     ·cases e2
     ·rename_i n1 n2;rw [if_neg n1,if_neg n2]
   rw [this]
   simp [aik,k1,he]
  ·have:(x.t == p.data.toList)=false:=by simpa using he
   rw [this,Bool.and_false]
   unfold letP
   split
   ·rfl
   ·split
    ·rfl
    ·simp only [aik,hl]
     simpa using he
 ·rw [if_neg k1]
  by_cases k2:x.k=2
  ·rw [if_pos k2];simp [aik,k2]
  ·rw [if_neg k2]
   by_cases k3:x.k=3
   ·rw [if_pos k3];simp [aik,k3]
   ·rw [if_neg k3]
    have k4:x.k=4:=by omega
    simp only [aik,hl,k4]
    rfl
def seesQ (L:List Wd) (q:QS) (j:Nat) (p:ByteArray):Bool:=decide (q.bd=0) && (match L[q.k+j]? with|some x=>fxW x p|none=>false)
theorem Rel.sees (h:Rel L n q s) (hL:∀ x ∈ L,aje x) (j:Nat) {p:ByteArray} (hp:ajh p):s.sees j p=seesQ L q j p:=by
 have hb:=h.bad
 unfold RS.sees seesQ
 by_cases h0:s.wc=0
 ·rw [h.word h0 j,hb,h0]
  cases hl:L[q.k+j]? with
  | none=>simp [aik]
  | some x =>
   rw [Option.map_some,seesP_fx (hL x (List.mem_of_getElem? hl)) hp]
   simp
 ·rw [h.noword h0 j,hb]
  simp [aik,h0]
def nmQ (L:List Wd) (q:QS) (j:Nat):Option ByteArray:=if q.bd=0 then (match L[q.k+j]? with|some x=>if x.k=1∧aer x.t=true then some ⟨x.t.toArray⟩ else none|none=>none) else none
def clQ (L:List Wd) (q:QS) (j:Nat):Option ByteArray:=if q.bd=0 then (match L[q.k+j]? with|some x=>if x.k=1∧bigQ x.t=true then some ⟨x.t.toArray⟩ else none|none=>none) else none
def nuQ (L:List Wd) (q:QS):Option ByteArray:=if q.bd=0 then (match L[q.k]? with|some x=>if x.k=2 then some ⟨x.t.toArray⟩ else none|none=>none) else none
theorem small_big (l:List UInt8) (h:aer l=true):bigQ l=false:=by
 cases l with
 | nil=>rfl
 | cons c r =>
  simp only [aer,bigQ,adm,big,Bool.and_eq_true,decide_eq_true_eq] at h ⊢
  have:(decide ((c.toNat:Int)≤90))=false:=by simp;omega
  rw [this];simp
theorem letP_eq (l:List UInt8) (h:alL l=true):letP ⟨l.toArray⟩=if aer l=true then .nm ⟨l.toArray⟩ else if bigQ l=true then .cl ⟨l.toArray⟩ else .fx ⟨l.toArray⟩:=by
 have e:(⟨l.toArray⟩:ByteArray).data.toList=l:=rfl
 unfold letP
 rw [nameOk_pre _ (by rw [e];exact h),classOk_pre _ (by rw [e];exact h),e]
theorem nmP_word {x:Wd} (hw:aje x):nmP (some (afr x))=if x.k=1∧aer x.t=true then some ⟨x.t.toArray⟩ else none:=by
 unfold afr afo
 by_cases k1:x.k=1
 ·rw [if_pos k1,letP_eq _ (hw.2.2.1 k1).1]
  by_cases h1:aer x.t=true
  ·simp only [k1,h1,if_true,true_and];rfl
  ·simp only [k1,h1,if_false,true_and,Bool.false_eq_true]
   by_cases h2:bigQ x.t=true
   ·simp only [h2,if_true];rfl
   ·simp only [h2,if_false,Bool.false_eq_true];rfl
 ·simp only [k1,if_false,false_and]
  by_cases k2:x.k=2
  ·simp only [k2,if_true];rfl
  ·by_cases k3:x.k=3
   ·simp [k3,nmP]
   ·simp only [k2,k3,if_false];rfl
theorem clP_word {x:Wd} (hw:aje x):clP (some (afr x))=if x.k=1∧bigQ x.t=true then some ⟨x.t.toArray⟩ else none:=by
 unfold afr afo
 by_cases k1:x.k=1
 ·rw [if_pos k1,letP_eq _ (hw.2.2.1 k1).1]
  by_cases h1:aer x.t=true
  ·have h2:=small_big _ h1
   simp only [k1,h1,h2,if_true,true_and,Bool.false_eq_true,if_false];rfl
  ·simp only [k1,h1,if_false,true_and,Bool.false_eq_true]
   by_cases h2:bigQ x.t=true
   ·simp only [h2,if_true];rfl
   ·simp only [h2,if_false,Bool.false_eq_true];rfl
 ·simp only [k1,if_false,false_and]
  by_cases k2:x.k=2
  ·simp only [k2,if_true];rfl
  ·by_cases k3:x.k=3
   ·simp [k3,clP]
   ·simp only [k2,k3,if_false];rfl
theorem letP_nonu (t u:ByteArray):letP t≠.nu u:=by
 unfold letP
 repeat' split
 all_goals (intro h;cases h)
theorem nuP_word {x:Wd} (hw:aje x):nuP (some (afr x))=if x.k=2 then some ⟨x.t.toArray⟩ else none:=by
 unfold afr afo
 by_cases k1:x.k=1
 ·rw [if_pos k1,if_neg (by omega)]
  cases hl:letP ⟨x.t.toArray⟩ with
  | nu u=>exact absurd hl (letP_nonu _ _)
  | _=>rfl
 ·rw [if_neg k1]
  by_cases k2:x.k=2
  ·rw [if_pos k2,if_pos k2];rfl
  ·rw [if_neg k2,if_neg k2]
   split<;>rfl
theorem Rel.nm (h:Rel L n q s) (hL:∀ x ∈ L,aje x) (j:Nat):nmP s.ws[j]?=nmQ L q j:=by
 have hb:=h.bad
 unfold nmQ
 by_cases h0:s.wc=0
 ·rw [h.word h0 j,if_pos (hb.trans h0)]
  cases hl:L[q.k+j]? with
  | none=>rfl
  | some x=>rw [Option.map_some,nmP_word (hL x (List.mem_of_getElem? hl))]
 ·rw [h.noword h0 j,if_neg (by rw [hb];exact h0)];rfl
theorem Rel.cl (h:Rel L n q s) (hL:∀ x ∈ L,aje x) (j:Nat):clP s.ws[j]?=clQ L q j:=by
 have hb:=h.bad
 unfold clQ
 by_cases h0:s.wc=0
 ·rw [h.word h0 j,if_pos (hb.trans h0)]
  cases hl:L[q.k+j]? with
  | none=>rfl
  | some x=>rw [Option.map_some,clP_word (hL x (List.mem_of_getElem? hl))]
 ·rw [h.noword h0 j,if_neg (by rw [hb];exact h0)];rfl
theorem Rel.nu (h:Rel L n q s) (hL:∀ x ∈ L,aje x):nuP s.ws[0]?=nuQ L q:=by
 have hb:=h.bad
 unfold nuQ
 by_cases h0:s.wc=0
 ·rw [h.word h0 0,if_pos (hb.trans h0),Nat.add_zero]
  cases hl:L[q.k]? with
  | none=>rfl
  | some x=>rw [Option.map_some,nuP_word (hL x (List.mem_of_getElem? hl))]
 ·rw [h.noword h0 0,if_neg (by rw [hb];exact h0)];rfl
end
section
open Go.RowKit
def OpS (s t:RS):Prop:=t.wc=0→s.wc=0∧t.op=s.op
theorem OpS.refl (s:RS):OpS s s:=fun h=>⟨h,rfl⟩
theorem OpS.trans {s t u:RS} (h:OpS s t) (k:OpS t u):OpS s u:=fun hu=>by
 obtain ⟨a,b⟩:=k hu
 obtain ⟨c,d⟩:=h a
 exact ⟨c,b.trans d⟩
theorem OpS.skip (s:RS):OpS s s.skip:=fun h=>⟨h,rfl⟩
theorem OpS.fail (s:RS) {c:Int} (hc:c≠0):OpS s (s.fail c):=fun h=>by
 unfold RS.fail at h ⊢
 split at h
 ·exact absurd h hc
 ·rename_i h0;exact absurd h h0
theorem OpS.need (s:RS) (p:ByteArray):OpS s (s.need p):=by
 unfold RS.need;split
 ·exact OpS.skip s
 ·exact OpS.fail s (by decide)
theorem OpS.called (s:RS) (t:ByteArray) (is:Bool):OpS s (s.called t is):=by
 unfold RS.called;split
 ·split
  ·exact OpS.fail s (by decide)
  ·exact OpS.skip s
 ·exact OpS.fail s (by decide)
theorem OpS.name (s:RS):OpS s s.name:=by unfold RS.name RS.byO;split<;>exact OpS.called _ _ _
theorem OpS.class (s:RS):OpS s s.class:=by unfold RS.class RS.byO;split<;>exact OpS.called _ _ _
theorem OpS.num (s:RS) (m:Int):OpS s (s.num m):=by
 unfold RS.num RS.numT
 repeat' split
 all_goals first|exact OpS.skip s|exact OpS.fail s (by decide)
theorem abt (s:RS) {c:Int} (hc:c≠0):(s.fail c).wc≠0:=by
 unfold RS.fail;split
 ·exact hc
 ·rename_i h;exact h
theorem ab5 (s:RS) (p:ByteArray) :
 (s.sees 0 p=false∧s.enter p=(s.fail 3).inc)∨(s.sees 0 p=true∧s.op=41∧s.enter p=(s.fail 4).inc)∨(s.sees 0 p=true∧s.op≠41∧s.enter p=s.skip.inc):=by
 unfold RS.enter
 cases hs:s.sees 0 p with
 | false =>
  left
  refine ⟨rfl,?_⟩
  rw [if_neg (by simp)]
  unfold RS.need
  rw [hs];simp
 | true =>
  right
  by_cases h4:s.op=41
  ·left
   refine ⟨rfl,h4,?_⟩
   rw [if_pos ⟨h4,rfl⟩]
   have e:(s.fail 4).need p=s.fail 4:=by
    have e1:(s.fail 4).sees 0 p=false:=by
     have:(s.fail 4).ws=[]:=by unfold RS.fail;split<;>rfl
     unfold RS.sees;rw [this];rfl
    unfold RS.need
    rw [e1]
    simp only [Bool.false_eq_true,if_false]
    have h0:(s.fail 4).wc≠0:=abt s (by decide)
    have h1:(s.fail 4).ws=[]:=by unfold RS.fail;split<;>rfl
    generalize s.fail 4=u at h0 h1
    unfold RS.fail
    rw [if_neg h0]
    cases u;simp at h1 ⊢;exact h1
   rw [e]
  ·right
   refine ⟨rfl,h4,?_⟩
   rw [if_neg (fun h=>h4 h.1)]
   unfold RS.need
   rw [hs];simp
theorem OpS.within {s t:RS} {p p':ByteArray} (h0:0≤s.op) (h1:s.op≤41) (h:OpS (s.enter p) t):OpS s (t.leave p'):=fun hu=>by
 have h2:(t.need p').wc=0:=hu
 obtain ⟨a,b⟩:=OpS.need t p' h2
 obtain ⟨c,d⟩:=h a
 rcases ab5 s p with ⟨_,e⟩|⟨_,_,e⟩|⟨_,h4,e⟩
 ·rw [e] at c;exact absurd c (abt s (by decide))
 ·rw [e] at c;exact absurd c (abt s (by decide))
 ·rw [e] at c d
  refine ⟨c,?_⟩
  show wrap64 ((t.need p').op - 1)=s.op
  have d':t.op=wrap64 (s.op+1):=d
  rw [b,d']
  simp only [wrap64]
  omega
theorem OpS.signed {s t:RS} {p:ByteArray} (h0:0≤s.op) (h1:s.op≤41) (h:OpS (s.enter p) t):OpS s t.dec:=fun hu=>by
 have a:t.wc=0:=hu
 obtain ⟨c,d⟩:=h a
 rcases ab5 s p with ⟨_,e⟩|⟨_,_,e⟩|⟨_,h4,e⟩
 ·rw [e] at c;exact absurd c (abt s (by decide))
 ·rw [e] at c;exact absurd c (abt s (by decide))
 ·rw [e] at c d
  refine ⟨c,?_⟩
  show wrap64 (t.op - 1)=s.op
  have d':t.op=wrap64 (s.op+1):=d
  rw [d']
  simp only [wrap64]
  omega
theorem enter_op {s:RS} {p:ByteArray} (h0:0≤s.op) (h1:s.op≤41) (hw:(s.enter p).wc=0):0≤(s.enter p).op∧(s.enter p).op≤41:=by
 rcases ab5 s p with ⟨_,e⟩|⟨_,_,e⟩|⟨_,h4,e⟩
 ·rw [e] at hw;exact absurd hw (abt s (by decide))
 ·rw [e] at hw;exact absurd hw (abt s (by decide))
 ·rw [e]
  show 0≤wrap64 (s.op+1)∧wrap64 (s.op+1)≤41
  simp only [wrap64]
  omega
def OpB (s:RS):Prop:=s.wc=0→0≤s.op∧s.op≤41
theorem OpB.of {s t:RS} (h:OpB s) (k:OpS s t):OpB t:=fun ht=>by
 obtain ⟨a,b⟩:=k ht
 rw [b];exact h a
theorem OpB.enter {s:RS} (h:OpB s) (p:ByteArray):OpB (s.enter p):=fun hw=>by
 have h0:s.wc=0:=by
  rcases ab5 s p with ⟨_,e⟩|⟨_,_,e⟩|⟨_,h4,e⟩
  ·rw [e] at hw;exact absurd hw (abt s (by decide))
  ·rw [e] at hw;exact absurd hw (abt s (by decide))
  ·rw [e] at hw;exact hw
 exact enter_op (h h0).1 (h h0).2 hw
theorem OpS.within' {s t:RS} {p p':ByteArray} (hB:OpB s) (h:OpS (s.enter p) t):OpS s (t.leave p'):=fun hu=>by
 have h2:(t.need p').wc=0:=hu
 have a:=(OpS.need t p' h2).1
 have c:=(h a).1
 have h0:s.wc=0:=by
  rcases ab5 s p with ⟨_,e⟩|⟨_,_,e⟩|⟨_,h4,e⟩
  ·rw [e] at c;exact absurd c (abt s (by decide))
  ·rw [e] at c;exact absurd c (abt s (by decide))
  ·rw [e] at c;exact c
 exact OpS.within (hB h0).1 (hB h0).2 h hu
theorem OpS.signed' {s t:RS} {p:ByteArray} (hB:OpB s) (h:OpS (s.enter p) t):OpS s t.dec:=fun hu=>by
 have c:=(h hu).1
 have h0:s.wc=0:=by
  rcases ab5 s p with ⟨_,e⟩|⟨_,_,e⟩|⟨_,h4,e⟩
  ·rw [e] at c;exact absurd c (abt s (by decide))
  ·rw [e] at c;exact absurd c (abt s (by decide))
  ·rw [e] at c;exact c
 exact OpS.signed (hB h0).1 (hB h0).2 h hu
theorem run_op:∀ (n:Nat) (m:Md) (s:RS),OpB s→OpS s (run n m s).2:=by
 intro n
 induction n with
 | zero=>intro m s _;exact OpS.refl s
 | succ n ih =>
  intro m s hB
  cases m with
  | expr=>simp only [run];exact ih _ _ hB
  | joined k =>
   simp only [run]
   have h1:=ih .signed s hB
   exact h1.trans (ih _ _ (hB.of h1))
  | loopJ k e =>
   simp only [run]
   split
   ·rename_i t ht
    split
    ·have h0:=OpS.skip s
     have h1:=ih (.joined (aat t+1)) s.skip (hB.of h0)
     exact (h0.trans h1).trans (ih _ _ ((hB.of h0).of h1))
    ·exact OpS.refl s
   ·exact OpS.refl s
  | signed =>
   simp only [run]
   split
   ·exact OpS.signed' hB (ih _ _ (hB.enter _))
   ·exact ih _ _ hB
  | followed =>
   simp only [run]
   have h1:=ih .atom s hB
   exact h1.trans (ih _ _ (hB.of h1))
  | loopF e =>
   simp only [run]
   have h0:=OpS.skip s
   have h1:=h0.trans (OpS.class s.skip)
   split
   ·have h2:=ih (.used 7 10 E0 [e]) s.skip (hB.of h0)
    exact (h0.trans h2).trans (ih _ _ ((hB.of h0).of h2))
   ·split
    ·exact h1.trans (ih _ _ (hB.of h1))
    ·split
     ·exact h1.trans (ih _ _ (hB.of h1))
     ·exact OpS.refl s
  | used p c ty l =>
   simp only [run]
   have h1:=OpS.name s
   split
   ·exact h1.trans (ih _ _ (hB.of h1))
   ·exact h1
  | args =>
   simp only [run]
   exact OpS.within' hB (ih _ _ (hB.enter _))
  | listed =>
   simp only [run]
   split
   ·exact OpS.refl s
   ·have h1:=ih .expr s hB
    exact h1.trans (ih _ _ (hB.of h1))
  | more l =>
   simp only [run]
   split
   ·have h0:=OpS.skip s
    have h1:=h0.trans (ih .expr s.skip (hB.of h0))
    exact h1.trans (ih _ _ (hB.of h1))
   ·exact OpS.refl s
  | atom =>
   simp only [run]
   have h1:=(OpS.class s).trans (OpS.need s.class ado)
   split
   ·exact OpS.num s _
   ·exact OpS.skip s
   ·exact ih _ _ hB
   ·exact h1.trans (ih _ _ (hB.of h1))
   ·exact ih _ _ hB
  | fixed =>
   simp only [run]
   have h0:=OpS.skip s
   have h1:=h0.trans (OpS.need s.skip af5)
   have h2:=h0.trans (OpS.class s.skip)
   split
   ·exact h0
   ·split
    ·exact h0
    ·split
     ·exact h0
     ·split
      ·exact h0
      ·split
       ·exact h1.trans (ih _ _ (hB.of h1))
       ·split
        ·exact h2.trans (ih _ _ (hB.of h2))
        ·split
         ·exact OpS.within' hB (ih _ _ (hB.enter _))
         ·exact OpS.fail s (by decide)
theorem RX_op (m:Md) (s:RS) (hB:OpB s):OpS s (RX m s).2:=run_op _ _ _ hB
end
end Go.Proofs.YtddnnohfbagbnaaGreatDoor
