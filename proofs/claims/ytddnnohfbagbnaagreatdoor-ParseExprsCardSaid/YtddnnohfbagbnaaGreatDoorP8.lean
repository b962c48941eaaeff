/- Parts of the proof: Num, UsA, Us, At, Ss, Own, AtB, Fol, Qa, Qc, Qd. -/
import Derived.Test.YtddnnohfbagbnaaGreatDoorHi
import Derived.Test.YtddnnohfbagbnaaGreatDoorP2
import Derived.Test.YtddnnohfbagbnaaGreatDoorP42
import Derived.Lib.ParseIntBTie
import Derived.Lib.AtoiErrMem
import Derived.Deep.RegionLaw
import Derived.Deep.RegionWith
set_option maxHeartbeats 8000000
set_option maxRecDepth 100000
namespace Go.Proofs.YtddnnohfbagbnaaGreatDoor
set_option linter.unusedSimpArgs false
set_option linter.unusedVariables false
section
open Go.RowKit
def ParSaid (t:ByteArray) (w:World) (e:Ending) (w':World):Prop :=
 Below w.heap.size w w'∧((∃ v,numO t=some v∧e=.returned (.tuple #[.int .i64 v,.nilIface]))∨(numO t=none∧∃ v T p,e=.returned (.tuple #[.int .i64 v,.iface T (.pointer (some p))])))
theorem Vars.keepR {W0 w:World} {c:Nat} {s:RS} (hv:Vars W0) (h:Rd W0 c s w):Vars w:=by
 have key:∀ g ev,W0.cell? ⟨g,0,none⟩=some ev→(ev=.nilIface∨∃ te pe,ev=.iface te pe)→w.cell? ⟨g,0,none⟩=some ev:=by
  intro g ev hg he
  have hne:g≠c:=by
   rintro rfl
   rcases he with rfl|⟨te,pe,rfl⟩
   ·exact h.2.1.nonil hg
   ·exact h.2.1.no hg
  exact (World.cell?_of_block (a:=⟨g,0,none⟩) (World.grownBy.block h.1 g (World.block_lt_of_cell? W0 (a:=⟨g,0,none⟩) hg) (by simpa using hne))).trans hg
 obtain ⟨⟨a,h1,h2⟩,b,h3,h4⟩:=hv
 exact ⟨⟨a,key _ _ h1 h2,h2⟩,b,key _ _ h3 h4,h4⟩
theorem parse_any (w:World) (t:ByteArray) (hv:Vars w) (ht:t.size≤1000000):Calls Tryz.prog 208 #[.string t,.int .i64 10,.int .i64 32] w (ParSaid t w):=by
 obtain ⟨⟨ev,h1,h2⟩,ev',h3,h4⟩:=hv
 cases hp:Lib.parseIntB 32 t.data.toList with
 | ok v =>
  refine (Tryz.strconv_ParseInt_10_at32_ok t (by omega) v hp w).mono ?_
  rintro e w' ⟨rfl,h⟩
  refine ⟨?_,.inl ⟨v,by simp [numO,hp],rfl⟩⟩
  rcases h with rfl|⟨u,rfl⟩
  ·exact Below.refl _ _
  ·exact Lib.bytesWorld_below _ _ _
 | range =>
  refine (Tryz.strconv_ParseInt_10_at32_range t (by omega) hp ev' w h3 h4).mono ?_
  rintro e w' ⟨N,rfl,_,_,hb⟩
  exact ⟨hb,.inr ⟨by simp [numO,hp],_,_,_,rfl⟩⟩
 | _ =>
  refine (Tryz.strconv_ParseInt_10_at32_syntax t (by omega) hp ev w h1 h2).mono ?_
  rintro e w' ⟨N,rfl,_,_,hb⟩
  exact ⟨hb,.inr ⟨by simp [numO,hp],_,_,_,rfl⟩⟩
theorem num_bounds {t:ByteArray} {v:Int} (h:numO t=some v):-2147483648≤v∧v < 2147483648:=by
 unfold numO at h
 split at h
 ·rename_i u hu
  injection h with h;subst h
  have:=Lib.parseIntB_bounds hu
  simpa using this
 ·cases h
theorem ret_i32 {a b:Int} (h:b=a):Ending.returned (.int .i32 a)=.returned (.int .i32 b):=by rw [h]
theorem number_no (W0 w:World) (c:Nat) (s:RS) (most:Int) (h:Rd W0 c s w) (hp:nuP s.ws[0]?=none):Calls Tryz.prog 190 #[.pointer (some ⟨c,0,none⟩),.int .i64 most] w fun e w'=>e=.returned (.int .i32 (s.numR most))∧Mv W0 c (s.num most) w w':=by
 have HA:=ke (abl W0 w c 0 s h (by omega))
 have HF:=ke (afs W0 w c s 3 h)
 have HE:=ke (show s.num most=s.fail 3 by simp [RS.num,hp])
 have HV:=ke (show s.numR most=0 by simp [RS.numR,hp])
 cases hx:s.ws[0]? with
 | none =>
  have hv:aar s.ws 0=.nilIface:=by simp [aar,hx]
  rw [hv] at HA
  clear hx hv h hp
  go_enter Tryz.func190,Tryz.ntmps190
  go_wp2_with (first|(go_at_call 103;refine HA.out.mono ?_;clear HA;rintro e w1 ⟨rfl,rfl⟩)|(go_at_call 63;refine HF.out.mono ?_;clear HF;rintro e w1 ⟨rfl,hm⟩;have HM:=ke hm;clear hm))
  go_ret
  exact ⟨ret_i32 HV.out,by rw [HE.out];exact HM.out⟩
 | some x =>
  obtain ⟨q,a⟩:=x
  have hv:aar s.ws 0=q.V:=by simp [aar,hx]
  rw [hv] at HA
  cases q with
  | nu t=>rw [hx] at hp;cases hp
  | fx t|nm t|cl t|qu t =>
   simp only [Pr.V] at HA
   clear hx hv h hp
   go_enter Tryz.func190,Tryz.ntmps190
   go_wp2_with (first|(go_at_call 103;refine HA.out.mono ?_;clear HA;rintro e w1 ⟨rfl,rfl⟩)|(go_at_call 63;refine HF.out.mono ?_;clear HF;rintro e w1 ⟨rfl,hm⟩;have HM:=ke hm;clear hm))
   go_ret
   exact ⟨ret_i32 HV.out,by rw [HE.out];exact HM.out⟩
theorem number_yes (W0 w:World) (c:Nat) (s:RS) (most:Int) (t:ByteArray) (a:Int) (hvars:Vars W0) (h:Rd W0 c s w) (hp:s.ws[0]?=some (.nu t,a)):Calls Tryz.prog 190 #[.pointer (some ⟨c,0,none⟩),.int .i64 most] w fun e w'=>e=.returned (.int .i32 (s.numR most))∧Mv W0 c (s.num most) w w':=by
 have HA:=ke (abl W0 w c 0 s h (by omega))
 have hv:aar s.ws 0=(Pr.nu t).V:=by simp [aar,hp]
 rw [hv] at HA
 simp only [Pr.V] at HA
 have HP:=ke (parse_any w t (hvars.keepR h) (h.short hp))
 have HF:Hid (∀ w',Rd W0 c s w'→Calls Tryz.prog 63 #[.pointer (some ⟨c,0,none⟩),.int .i64 5] w' fun e w''=>e=.returned (.tuple #[])∧Mv W0 c (s.fail 5) w' w''):=by
  show ∀ w',_
  intro w' h';exact afs W0 w' c s 5 h'
 have HS:Hid (∀ w',Rd W0 c s w'→Calls Tryz.prog 105 #[.pointer (some ⟨c,0,none⟩)] w' fun e w''=>e=.returned (.tuple #[])∧Mv W0 c s.skip w' w''):=by
  show ∀ w',_
  intro w' h';exact afq W0 w' c s h' (ahd hp)
 have hnu:nuP s.ws[0]?=some t:=by rw [hp];rfl
 have HRD:=ke h
 cases ho:numO t with
 | none =>
  have HE:=ke (show s.num most=s.fail 5 by simp [RS.num,hnu,RS.numT,ho])
  have HV:=ke (show s.numR most=0 by simp [RS.numR,hnu,RS.numV,ho])
  have HP2:Hid (Calls Tryz.prog 208 #[.string t,.int .i64 10,.int .i64 32] w fun e w'=>Below w.heap.size w w'∧∃ v T p,e=.returned (.tuple #[.int .i64 v,.iface T (.pointer (some p))])):=by
   refine HP.out.mono ?_
   rintro e w' ⟨hb,⟨v,hv',_⟩|⟨_,hr⟩⟩
   ·rw [ho] at hv';cases hv'
   ·exact ⟨hb,hr⟩
  clear hv h hp hnu ho HP hvars
  go_enter Tryz.func190,Tryz.ntmps190
  go_wp2_with (first|(go_at_call 103;refine HA.out.mono ?_;clear HA;rintro e w1 ⟨rfl,rfl⟩)|(go_at_call 208;refine HP2.out.mono ?_;clear HP2;rintro e w1 ⟨hb,v,T,p,rfl⟩;have HM:=ke (Mv.below hb HRD.out);clear hb)|(go_at_call 63;refine (HF.out _ HM.out.2).mono ?_;clear HF;rintro e w2 ⟨rfl,hm⟩;have HM2:=ke hm;clear hm))
  go_ret
  exact ⟨ret_i32 HV.out,by rw [HE.out];exact HM.out.trans HM2.out⟩
 | some v =>
  have hbd:=num_bounds ho
  have HP2:Hid (Calls Tryz.prog 208 #[.string t,.int .i64 10,.int .i64 32] w fun e w'=>Below w.heap.size w w'∧e=.returned (.tuple #[.int .i64 v,.nilIface])):=by
   refine HP.out.mono ?_
   rintro e w' ⟨hb,⟨v',hv',hr⟩|⟨hn,_⟩⟩
   ·rw [ho] at hv';injection hv' with hv';subst hv';exact ⟨hb,hr⟩
   ·rw [ho] at hn;cases hn
  by_cases hle:v≤most
  ·have HE:=ke (show s.num most=s.skip by simp [RS.num,hnu,RS.numT,ho,hle])
   have HV:=ke (show s.numR most=v by simp [RS.numR,hnu,RS.numV,ho,hle])
   have hw:wrap32 v=v:=by unfold wrap32;omega
   clear hv h hp hnu ho HP hvars
   go_enter Tryz.func190,Tryz.ntmps190
   go_wp2_with (first|(go_at_call 103;refine HA.out.mono ?_;clear HA;rintro e w1 ⟨rfl,rfl⟩)|(go_at_call 208;refine HP2.out.mono ?_;clear HP2;rintro e w1 ⟨hb,rfl⟩;have HM:=ke (Mv.below hb HRD.out);clear hb)|(go_at_call 105;refine (HS.out _ HM.out.2).mono ?_;clear HS;rintro e w2 ⟨rfl,hm⟩;have HM2:=ke hm;clear hm))
   go_ret
   exact ⟨ret_i32 (by rw [HV.out]),by rw [HE.out];exact HM.out.trans HM2.out⟩
  ·have HE:=ke (show s.num most=s.fail 5 by simp [RS.num,hnu,RS.numT,ho,hle])
   have HV:=ke (show s.numR most=0 by simp [RS.numR,hnu,RS.numV,ho,hle])
   have hlt:most < v:=by omega
   clear hv h hp hnu ho HP hvars hle
   go_enter Tryz.func190,Tryz.ntmps190
   go_wp2_with (first|(go_at_call 103;refine HA.out.mono ?_;clear HA;rintro e w1 ⟨rfl,rfl⟩)|(go_at_call 208;refine HP2.out.mono ?_;clear HP2;rintro e w1 ⟨hb,rfl⟩;have HM:=ke (Mv.below hb HRD.out);clear hb)|(go_at_call 63;refine (HF.out _ HM.out.2).mono ?_;clear HF;rintro e w2 ⟨rfl,hm⟩;have HM2:=ke hm;clear hm))
   go_ret
   exact ⟨ret_i32 HV.out,by rw [HE.out];exact HM.out.trans HM2.out⟩
theorem number_any (W0 w:World) (c:Nat) (s:RS) (most:Int) (hv:Vars W0) (h:Rd W0 c s w):Calls Tryz.prog 190 #[.pointer (some ⟨c,0,none⟩),.int .i64 most] w fun e w'=>e=.returned (.int .i32 (s.numR most))∧Mv W0 c (s.num most) w w':=by
 cases hp:s.ws[0]? with
 | none=>exact number_no W0 w c s most h (by rw [hp];rfl)
 | some x =>
  obtain ⟨q,a⟩:=x
  cases q with
  | nu t=>exact number_yes W0 w c s most t a hv h hp
  | fx t|nm t|cl t|qu t=>exact number_no W0 w c s most h (by rw [hp];rfl)
end
section
open Go.RowKit
theorem run_append_full {P:Program} {w:World} (t ty e:TypeId) (i:TypeInfo) (z:Value) (size bytes:Nat) (ht:P.underlying t=some (.slice e)) (hi:P.info? e=some i) (hz:i.zero=some z)
 (hsize:i.size=size) (hby:i.bytes=bytes) (hzs:z.cells.size=size) (hsz:0 < size)
 (B:Nat) (A:Option Addr) (n:Nat) (xs:List Value) (hown:w.ownsRow B e size (.slice A n n) n xs) (B2:Nat) (v2:Value) (m:Nat) (news:List Value) (hown2:w.ownsRow B2 e size v2 m news)
 (h1:∀ u ∈ news,u.oneCell'=true) (h63:n+m≤maxLen) (hbytes:(n+m) * bytes≤140737488355328) (hB:B≤w.heap.size) :
 ∃ v' w',(Builtin.append_ #[t,t] ty #[.slice A n n,v2]).run P w=.ok v' w'∧w'.ownsRow B e size v' (n+m) (xs ++ news)∧w.grownBy w' none∧(v'.ownBlock=(Value.slice A n n).ownBlock∨∃ k,v'.ownBlock=some k∧w.heap.size≤k):=by
 have ho2:=hown2
 have ho1:=hown
 rcases hown2 with ⟨hl,⟨rfl,rfl⟩|⟨g,cap,cur,rfl,_⟩⟩
 ·have hn:news=[]:=by simpa using hl
  subst hn
  exact ⟨_,_,run_append_owned_none (P:=P) w B t ty e i size ht hi _ n xs hown,by simpa using hown,ah5 w _,.inl rfl⟩
 ·have hnews:∀ j u,news[j]?=some u→w.cell? ((⟨g,0,none⟩:Addr).add j)=some u:=fun j u hj=>ho2.cells (g:=g) rfl j u hj
  by_cases hm:m=0
  ·subst hm
   have hn:news=[]:=by simpa using hl
   subst hn
   rcases hown with ⟨hlx,⟨hv,hn0⟩|⟨g1,cap1,cur1,hv,_⟩⟩
   ·injection hv with hA hn1 hn2
    subst hA hn0
    have hx0:xs=[]:=by simpa using hlx
    subst hx0
    obtain ⟨v',w',hr,r1,r2,r3⟩:=run_append_own (P:=P) (w:=w) w.heap.size t ty e i z size bytes ht hi hz hsize hby hzs hsz (.slice none 0 0) 0 [] (World.ownsRow_nil w _ e size) ⟨g,0,none⟩ 0 cap [] hl hnews h1 h63 hbytes (Nat.le_refl _)
    refine ⟨v',w',hr,aiw r1 hB,r2,?_⟩
    have:=r3.2 ⟨rfl,rfl⟩
    subst this
    exact .inl rfl
   ·injection hv with hA hn1 hn2
    subst hA
    have hr:=run_append_room_cells (P:=P) (w:=w) t ty e i ht hi g1 0 n n ⟨g,0,none⟩ 0 cap [] (by simp) hnews h1 (Nat.le_refl _) (by simp) (by simp)
    exact ⟨_,_,hr,by simpa [World.setCells] using ho1,by simpa [World.setCells] using ah5 w none,.inl rfl⟩
  ·cases A with
   | none =>
    rcases hown with ⟨hlx,⟨hv,hn0⟩|⟨g1,cap1,cur1,hv,_⟩⟩
    ·subst hn0
     have hx0:xs=[]:=by simpa using hlx
     subst hx0
     obtain ⟨v',w',hr,r1,r2,r3⟩:=run_append_own (P:=P) (w:=w) w.heap.size t ty e i z size bytes ht hi hz hsize hby hzs hsz (.slice none 0 0) 0 [] (World.ownsRow_nil w _ e size) ⟨g,0,none⟩ m cap news hl hnews h1 h63 hbytes (Nat.le_refl _)
     refine ⟨v',w',hr,aiw r1 hB,r2,?_⟩
     cases hv':v'.ownBlock with
     | none=>exact .inl rfl
     | some k=>exact .inr ⟨k,rfl,(r1.lt k hv').1⟩
    ·cases hv
   | some b =>
    have hb:b.spot=none∧b.off=0:=by
     rcases hown with ⟨_,⟨hv,_⟩|⟨g1,cap1,cur1,hv,_⟩⟩
     ·cases hv
     ·injection hv with hA;injection hA with hA;subst hA;exact ⟨rfl,rfl⟩
    obtain ⟨v',w',hr,r1,r2⟩:=run_append_arg_grows (P:=P) (w:=w) t ty e i z size bytes ht hi hz hsize hby hzs hsz b n n xs ho1.1 (fun j u hj=>by
     have:=ho1.cells (g:=b.block) rfl j u hj
     obtain ⟨bb,bo,bs⟩:=b
     simp only at hb
     obtain ⟨rfl,rfl⟩:=hb
     exact this) ⟨g,0,none⟩ m cap news hl hnews (by omega) h63 hbytes
    refine ⟨v',w',hr,aiw r1 hB,r2,?_⟩
    cases hv':v'.ownBlock with
    | none =>
     rcases r1.2 with ⟨_,hn⟩|⟨g',c',cu',rfl,_⟩
     ·omega
     ·cases hv'
    | some k=>exact .inr ⟨k,rfl,(r1.lt k hv').1⟩
theorem adt {P:Program} {ops:Array Oper} {o:Oper} {a:Act} {w:World} {K:Act→World→Prop} {Q:Exit→Act→World→Prop} {E:Prop}
 (hg:o.guard=none) (s x:Operand) (t:TypeId) (hop:o.op=Op.call { callee:=Callee.builtin Builtin.append,args:=#[s,x],argTypes:=#[t,t] })
 (e:TypeId) (i:TypeInfo) (z:Value) (size bytes:Nat) (ht:P.underlying t=some (.slice e)) (hi:P.info? e=some i) (hz:i.zero=some z)
 (hsize:i.size=size) (hby:i.bytes=bytes) (hzs:z.cells.size=size) (hsz:0 < size)
 (B:Nat) (A:Option Addr) (n:Nat) (xs:List Value) (hs:a.eval s=.slice A n n) (hown:w.ownsRow B e size (.slice A n n) n xs) (B2:Nat) (v2:Value) (m:Nat) (news:List Value) (hx:a.eval x=v2) (hown2:w.ownsRow B2 e size v2 m news)
 (h1:∀ u ∈ news,u.oneCell'=true) (h63:n+m≤maxLen) (hbytes:(n+m) * bytes≤140737488355328) (hB:B≤w.heap.size)
 (hK:∀ v' w',w'.ownsRow B e size v' (n+m) (xs ++ news)→w.grownBy w' none→(v'.ownBlock=(Value.slice A n n).ownBlock∨∃ k,v'.ownBlock=some k∧w.heap.size≤k)→K (a.put o.dst v') w') :
 if Region.wanted o (yielded ops a.tmps)=true then Oper.wp P o a w K Q else E:=by
 have hw:Region.wanted o (yielded ops a.tmps)=true:=by simp [Region.wanted,hg]
 rw [if_pos hw]
 obtain ⟨v',w',hr,r1,r2,r3⟩:=run_append_full (P:=P) t o.type e i z size bytes ht hi hz hsize hby hzs hsz B A n xs hown B2 v2 m news hown2 h1 h63 hbytes hB
 unfold Oper.wp
 simp [execOp,hop,resolve,invoke,builtin,hs,hx,hr,Result.andThen]
 exact hK v' w' r1 r2 r3
theorem OwnR.app2 {B B2:Nat} {r:Option Nat} {w w5 w':World} {v v2 v':Value} {xs ys:List Nd} (h:OwnR B r w v xs) (h2:OwnE B2 w5 v2 ys) (hB:B≤B2) (hm:xs.length+ys.length≤2000000) (hr:∀ g,r=some g→g < B2)
 (ho:w'.ownsRow B 35 8 v' (xs.length+ys.length) (xs.flatMap aab ++ ys.flatMap aab))
 (k1:∀ k j u,B≤k→k < w.heap.size→some k≠v.ownBlock→w.cell? ⟨k,j,none⟩=some u→w'.cell? ⟨k,j,none⟩=some u∧some k≠v'.ownBlock)
 (k2:∀ k j u,B2≤k→k < w5.heap.size→w5.cell? ⟨k,j,none⟩=some u→w'.cell? ⟨k,j,none⟩=some u∧some k≠v'.ownBlock):OwnR B r w' v' (xs ++ ys):=by
 refine ⟨by simpa using ho,fun y hy=>?_,fun ws hs=>afb (h.2.2.1 ws fun k j u hk hne hne2 hu=>?_) (h2.2.2.1 ws fun k j u hk hne hu=>?_),by simpa using hm⟩
 ·rcases List.mem_append.1 hy with hy|hy
  ·exact h.2.1 y hy
  ·exact h2.2.1 y hy
 ·have hlt:k < w.heap.size:=World.block_lt_of_cell? w (a:=⟨k,j,none⟩) hu
  exact hs k j u hk (k1 k j u hk hlt hne hu).2 hne2 (k1 k j u hk hlt hne hu).1
 ·have hlt:k < w5.heap.size:=World.block_lt_of_cell? w5 (a:=⟨k,j,none⟩) hu
  exact hs k j u (Nat.le_trans hB hk) (k2 k j u hk hlt hu).2 (fun e=>by have:=hr k e.symm;omega) (k2 k j u hk hlt hu).1
end
section
open Go.RowKit
theorem abz (s:RS):s.nameV.size≤maxLen:=by
 unfold RS.nameV byV RS.calledV
 unfold maxLen
 split
 ·split
  ·rename_i h;omega
  ·exact Nat.zero_le _
 ·exact Nat.zero_le _
theorem ab7 (s:RS):s.classV.size≤maxLen:=by
 unfold RS.classV byV RS.calledV
 unfold maxLen
 split
 ·split
  ·rename_i h;omega
  ·exact Nat.zero_le _
 ·exact Nat.zero_le _
theorem cell_past {w w' w'':World} {b1 b2 k j:Nat} {u:Value} (h1:w.grownBy w' (some b1)) (h2:w'.grownBy w'' (some b2)) (hu:w.cell? ⟨k,j,none⟩=some u) (n1:k≠b1) (n2:k≠b2):w''.cell? ⟨k,j,none⟩=some u :=
 h2.cell (h1.cell hu (by simpa using n1)) (by simpa using n2)
theorem adh {w w':World} (h:w.grownBy w' none):Below w.heap.size w w':=(Below.refl _ w).grown h (Nat.le_refl _) (by simp)
theorem us_c1 {ys zs:List Nd} {l:List Nd} {a b:Nat} (hl:ys.length≤1) (hz:aai zs=aai l) (hw:l.length≤a+1) (hf:b≤1000000) (ha:a≤b - 1):ys.length+zs.length≤maxLen:=by
 have:=adw hz
 unfold maxLen;omega
theorem us_c2 {ys zs:List Nd} {l:List Nd} {a b:Nat} (hl:ys.length≤1) (hz:aai zs=aai l) (hw:l.length≤a+1) (hf:b≤1000000) (ha:a≤b - 1):(ys.length+zs.length) * 112≤140737488355328:=by
 have:=adw hz
 omega
theorem used_no (n:Nat) (IH:SpecR n) (W0 w:World) (B:Nat) (ro:Option Nat) (c:Nat) (s:RS) (p k:Int) (ty:ByteArray) (A:Option Addr) (xs ys:List Nd) (hv:Vars W0) (h:Rd W0 c s w) (hn:aaj (n+1) (.used p k ty xs) s) (ho:OwnR B ro w (.slice A ys.length ys.length) ys) (hbr:aai ys=aai xs) (hcB:c < B) (hBw:B≤w.heap.size) (hl:ys.length≤1) (hty:ty.size≤maxLen) (hro:∀ g,ro=some g→g < w.heap.size∧(Value.slice A ys.length ys.length).ownBlock≠some g) (hsee:s.name.sees 0 aah=false) :
 Calls Tryz.prog 176 #[.pointer (some ⟨c,0,none⟩),.agg #[.int .i64 0,.int .i32 0,.string ⟨#[]⟩,.string ⟨#[]⟩,.string ty,.slice A ys.length ys.length,.string ⟨#[]⟩,.int .i64 0],.int .i64 p,.int .i64 k] w (UsC W0 B ro c w (run (n+1) (.used p k ty xs) s)):=by
 have hR:run (n+1) (.used p k ty xs) s=([mkE p 0 E0 s.nameV ty xs],s.name):=by simp only [run,hsee];simp
 have hlt:=h.lt
 have hle0:=h.le
 have hnm:=abz s
 obtain ⟨nm,hnme⟩:∃ nm,s.nameV=nm:=⟨_,rfl⟩
 rw [hnme] at hnm
 obtain ⟨W1,hW1⟩:∃ W1,(w.alloc (.cells #[.int .i64 0,.int .i32 0,.string ⟨#[]⟩,.string ⟨#[]⟩,.string ty,.slice A ys.length ys.length,.string ⟨#[]⟩,.int .i64 0] 35)).alloc (.cells #[.int .i64 0,.int .i32 0,.string ⟨#[]⟩,.string ⟨#[]⟩,.string ⟨#[]⟩,.slice none 0 0,.string ⟨#[]⟩,.int .i64 0] 35)=W1:=⟨_,rfl⟩
 have hb:Below w.heap.size w W1:=by rw [← hW1];exact ((Below.refl _ w).alloc (Nat.le_refl _) _).alloc (by simp) _
 have hx1:Bx W1 w.heap.size #[.int .i64 0,.int .i32 0,.string ⟨#[]⟩,.string ⟨#[]⟩,.string ty,.slice A ys.length ys.length,.string ⟨#[]⟩,.int .i64 0] 35:=by rw [← hW1];exact (Bx.new _ _ _).next ((Below.refl _ _).alloc (Nat.le_refl _) _)
 have hx2:Bx W1 (w.heap.size+1) #[.int .i64 0,.int .i32 0,.string ⟨#[]⟩,.string ⟨#[]⟩,.string ⟨#[]⟩,.slice none 0 0,.string ⟨#[]⟩,.int .i64 0] 35:=by
  rw [← hW1]
  have:=Bx.new (w.alloc (.cells #[.int .i64 0,.int .i32 0,.string ⟨#[]⟩,.string ⟨#[]⟩,.string ty,.slice A ys.length ys.length,.string ⟨#[]⟩,.int .i64 0] 35)) #[.int .i64 0,.int .i32 0,.string ⟨#[]⟩,.string ⟨#[]⟩,.string ⟨#[]⟩,.slice none 0 0,.string ⟨#[]⟩,.int .i64 0] 35
  simpa using this
 have HM0:=ke (Mv.below hb h)
 have HN:=ke (acq W0 W1 c s HM0.out.2)
 rw [hnme] at HN
 have HX1:=ke hx1
 have HX2:=ke hx2
 have HO:=ke ho
 clear hx1 hx2 hb ho
 obtain ⟨s1,hs1⟩:∃ s1,s.name=s1:=⟨_,rfl⟩
 rw [hs1] at HN hsee
 rw [hR]
 rw [hnme,hs1]
 clear hnme hs1 hR hn IH hv
 go_enter Tryz.func176,Tryz.ntmps176
 go_wp2_with fail
 refine HN.out.mono ?_
 clear HN hW1
 rintro e w2 ⟨rfl,hm⟩
 have hs2:=hm.1.size
 have hs1':=HM0.out.1.size
 have hlW:w.heap.size+1 < W1.heap.size:=HX2.out.lt
 have hy1:Bx w2 w.heap.size #[.int .i64 0,.int .i32 0,.string ⟨#[]⟩,.string ⟨#[]⟩,.string ty,.slice A ys.length ys.length,.string ⟨#[]⟩,.int .i64 0] 35:=Bx.grown HX1.out hm.1 (by omega)
 have hy2:=ke (Bx.grown HX2.out hm.1 (by omega))
 obtain ⟨W3,hW3⟩:∃ W3,(w2.setCell ⟨w.heap.size,0,none⟩ (.int .i64 p)).setCell ⟨w.heap.size,3,none⟩ (.string nm)=W3:=⟨_,rfl⟩
 have hg3:w2.grownBy W3 (some w.heap.size):=by rw [← hW3];exact (aac _ _ _ _).trans (aac _ _ _ _)
 have hz1:Bx W3 w.heap.size #[.int .i64 p,.int .i32 0,.string ⟨#[]⟩,.string nm,.string ty,.slice A ys.length ys.length,.string ⟨#[]⟩,.int .i64 0] 35:=by
  rw [← hW3]
  have:=(hy1.set 0 (.int .i64 p)).set 3 (.string nm)
  simpa using this
 have hz2:=ke (Bx.grown hy2.out hg3 (by omega))
 have HM3:=ke (Mv.over (Below.refl _ _) (HM0.out.trans hm) hg3 (Nat.le_refl _) hlt)
 have HZ1:=ke hz1
 have HS:=ke (abo W0 W3 c s1 aah HM3.out.2)
 rw [hsee] at HS
 obtain ⟨r0,r1,r2,r3,r4,r5,r6,r7⟩:=hy1.all_8
 have g0:=hy1.fro 0;have g3:=hy1.fro 3
 have hs23:=hg3.size
 clear hm hy1 hy2 hg3 hz1
 go_wp2_with fail
 refine HS.out.mono ?_
 clear HS hW3
 rintro e w3 ⟨rfl,rfl⟩
 have hs3:=HM3.out.1.size
 clear r0 r1 r2 r3 r4 r5 r6 r7 g0 g3
 obtain ⟨r0,r1,r2,r3,r4,r5,r6,r7⟩:=HZ1.out.all_8
 have hx2:=hz2.out
 obtain ⟨a0,a1,a2,a3,a4,a5,a6,a7⟩:=hx2.all_8
 have g0:=hx2.fro 0;have g1:=hx2.fro 1;have g2:=hx2.fro 2;have g3:=hx2.fro 3;have g4:=hx2.fro 4;have g5:=hx2.fro 5;have g6:=hx2.fro 6;have g7:=hx2.fro 7
 have HG:=ke (aaw W3 (w.heap.size+1) (.int .i64 p) (.int .i32 0) (.string ⟨#[]⟩) (.string nm) (.string ty) (.slice A ys.length ys.length) (.string ⟨#[]⟩) (.int .i64 0))
 clear hx2
 go_wp2_with fail
 obtain ⟨z0,z1,z2,z3,z4,z5,z6,z7⟩:=(hz2.out.to_8 (.int .i64 p) (.int .i32 0) (.string ⟨#[]⟩) (.string nm) (.string ty) (.slice A ys.length ys.length) (.string ⟨#[]⟩) (.int .i64 0)).all_8
 (try simp only [Exit.inBlock,Exit.then])
 refine bodyPost_ret (v:=.agg #[.int .i64 p,.int .i32 0,.string ⟨#[]⟩,.string nm,.string ty,.slice A ys.length ys.length,.string ⟨#[]⟩,.int .i64 0]) (by simp [results,Tryz.results176,go_sem,z0,z1,z2,z3,z4,z5,z6,z7]) rfl ?_
 have hmv:=Mv.over (Below.refl _ _) HM3.out HG.out (by omega) hlt
 exact ⟨_,rfl,(HO.out.grown hmv.1 hcB).node (fun g hg=>(hro g hg).2) p 0 ⟨#[]⟩ nm ty ⟨Nat.zero_le _,hnm,hty⟩ (ab4 hbr _ _ _ _ _),hmv⟩
theorem used_yes (n:Nat) (IH:SpecR n) (W0 w:World) (B:Nat) (ro:Option Nat) (c:Nat) (s:RS) (p k:Int) (ty:ByteArray) (A:Option Addr) (xs ys:List Nd) (hv:Vars W0) (h:Rd W0 c s w) (hn:aaj (n+1) (.used p k ty xs) s) (ho:OwnR B ro w (.slice A ys.length ys.length) ys) (hbr:aai ys=aai xs) (hcB:c < B) (hBw:B≤w.heap.size) (hl:ys.length≤1) (hty:ty.size≤maxLen) (hro:∀ g,ro=some g→g < w.heap.size∧(Value.slice A ys.length ys.length).ownBlock≠some g) (hsee:s.name.sees 0 aah=true) :
 Calls Tryz.prog 176 #[.pointer (some ⟨c,0,none⟩),.agg #[.int .i64 0,.int .i32 0,.string ⟨#[]⟩,.string ⟨#[]⟩,.string ty,.slice A ys.length ys.length,.string ⟨#[]⟩,.int .i64 0],.int .i64 p,.int .i64 k] w (UsC W0 B ro c w (run (n+1) (.used p k ty xs) s)):=by
 obtain ⟨q,hq⟩:∃ q,run n .args s.name=q:=⟨_,rfl⟩
 have hR:run (n+1) (.used p k ty xs) s=([mkE k 0 E0 s.nameV ty (xs ++ q.1)],q.2):=by simp only [run,hsee,hq];simp
 have hle:=ace hsee
 have hln:=abg s
 have hen:aaj n .args s.name:=by simp only [aaj,Md.rank] at hn ⊢;omega
 have hwide:q.1.length≤s.name.len+1:=by have:=run_wide n .args s.name;rw [hq] at this;exact this
 have hfew:=h.few
 have hlt:=h.lt
 have hle0:=h.le
 have hnm:=abz s
 obtain ⟨nm,hnme⟩:∃ nm,s.nameV=nm:=⟨_,rfl⟩
 rw [hnme] at hnm
 obtain ⟨W1,hW1⟩:∃ W1,(w.alloc (.cells #[.int .i64 0,.int .i32 0,.string ⟨#[]⟩,.string ⟨#[]⟩,.string ty,.slice A ys.length ys.length,.string ⟨#[]⟩,.int .i64 0] 35)).alloc (.cells #[.int .i64 0,.int .i32 0,.string ⟨#[]⟩,.string ⟨#[]⟩,.string ⟨#[]⟩,.slice none 0 0,.string ⟨#[]⟩,.int .i64 0] 35)=W1:=⟨_,rfl⟩
 have hb:Below w.heap.size w W1:=by rw [← hW1];exact ((Below.refl _ w).alloc (Nat.le_refl _) _).alloc (by simp) _
 have hx1:Bx W1 w.heap.size #[.int .i64 0,.int .i32 0,.string ⟨#[]⟩,.string ⟨#[]⟩,.string ty,.slice A ys.length ys.length,.string ⟨#[]⟩,.int .i64 0] 35:=by rw [← hW1];exact (Bx.new _ _ _).next ((Below.refl _ _).alloc (Nat.le_refl _) _)
 have hx2:Bx W1 (w.heap.size+1) #[.int .i64 0,.int .i32 0,.string ⟨#[]⟩,.string ⟨#[]⟩,.string ⟨#[]⟩,.slice none 0 0,.string ⟨#[]⟩,.int .i64 0] 35:=by
  rw [← hW1]
  have:=Bx.new (w.alloc (.cells #[.int .i64 0,.int .i32 0,.string ⟨#[]⟩,.string ⟨#[]⟩,.string ty,.slice A ys.length ys.length,.string ⟨#[]⟩,.int .i64 0] 35)) #[.int .i64 0,.int .i32 0,.string ⟨#[]⟩,.string ⟨#[]⟩,.string ⟨#[]⟩,.slice none 0 0,.string ⟨#[]⟩,.int .i64 0] 35
  simpa using this
 have HM0:=ke (Mv.below hb h)
 have HN:=ke (acq W0 W1 c s HM0.out.2)
 rw [hnme] at HN
 have HX1:=ke hx1
 have HX2:=ke hx2
 have HO:=ke ho
 clear hx1 hx2 hb ho
 obtain ⟨s1,hs1⟩:∃ s1,s.name=s1:=⟨_,rfl⟩
 rw [hs1] at HN hsee
 rw [hs1] at hq hen hwide hle hln
 have HA:Hid (∀ w',Rd W0 c s1 w'→Calls Tryz.prog 193 #[.pointer (some ⟨c,0,none⟩)] w' (LsC W0 c w' q)):=by
  show ∀ w',_
  intro w' h';have:=IH W0 w' c _ hv h' hen;rw [hq] at this;exact this
 rw [hR]
 rw [hnme]
 clear hnme hs1 hR hn IH hv hq hen h
 go_enter Tryz.func176,Tryz.ntmps176
 go_wp2_with fail
 refine HN.out.mono ?_
 clear HN hW1
 rintro e w2 ⟨rfl,hm⟩
 have hs2:=hm.1.size
 have hs1':=HM0.out.1.size
 have hlW:w.heap.size+1 < W1.heap.size:=HX2.out.lt
 have hy1:Bx w2 w.heap.size #[.int .i64 0,.int .i32 0,.string ⟨#[]⟩,.string ⟨#[]⟩,.string ty,.slice A ys.length ys.length,.string ⟨#[]⟩,.int .i64 0] 35:=Bx.grown HX1.out hm.1 (by omega)
 have hy2:=ke (Bx.grown HX2.out hm.1 (by omega))
 obtain ⟨W3,hW3⟩:∃ W3,(w2.setCell ⟨w.heap.size,0,none⟩ (.int .i64 p)).setCell ⟨w.heap.size,3,none⟩ (.string nm)=W3:=⟨_,rfl⟩
 have hg3:w2.grownBy W3 (some w.heap.size):=by rw [← hW3];exact (aac _ _ _ _).trans (aac _ _ _ _)
 have hz1:Bx W3 w.heap.size #[.int .i64 p,.int .i32 0,.string ⟨#[]⟩,.string nm,.string ty,.slice A ys.length ys.length,.string ⟨#[]⟩,.int .i64 0] 35:=by
  rw [← hW3]
  have:=(hy1.set 0 (.int .i64 p)).set 3 (.string nm)
  simpa using this
 have hz2:=ke (Bx.grown hy2.out hg3 (by omega))
 have HM3:=ke (Mv.over (Below.refl _ _) (HM0.out.trans hm) hg3 (Nat.le_refl _) hlt)
 have HZ1:=ke hz1
 have HS:=ke (abo W0 W3 c s1 aah HM3.out.2)
 rw [hsee] at HS
 obtain ⟨r0,r1,r2,r3,r4,r5,r6,r7⟩:=hy1.all_8
 have g0:=hy1.fro 0;have g3:=hy1.fro 3
 have hs23:=hg3.size
 clear hm hy1 hy2 hg3 hz1
 go_wp2_with fail
 refine HS.out.mono ?_
 clear HS hW3
 rintro e w3 ⟨rfl,rfl⟩
 have hs3:=HM3.out.1.size
 clear r0 r1 r2 r3 r4 r5 r6 r7 g0 g3
 obtain ⟨W4,hW4⟩:∃ W4,W3.setCell ⟨w.heap.size,0,none⟩ (.int .i64 k)=W4:=⟨_,rfl⟩
 have hg4:W3.grownBy W4 (some w.heap.size):=by rw [← hW4];exact aac _ _ _ _
 have hd1:Bx W4 w.heap.size #[.int .i64 k,.int .i32 0,.string ⟨#[]⟩,.string nm,.string ty,.slice A ys.length ys.length,.string ⟨#[]⟩,.int .i64 0] 35:=by
  rw [← hW4]
  have:=HZ1.out.set 0 (.int .i64 k)
  simpa using this
 have HD2:=ke (Bx.grown hz2.out hg4 (by omega))
 have HM4:=ke (Mv.over (Below.refl _ _) HM3.out hg4 (Nat.le_refl _) hlt)
 have HD1:=ke hd1
 obtain ⟨i0,hi,hz0,hzz1,hzz2⟩:=info_parts Tryz.infoEx
 obtain ⟨r0,r1,r2,r3,r4,r5,r6,r7⟩:=HZ1.out.all_8
 have g0:=HZ1.out.fro 0
 obtain ⟨d0,d1,d2,d3,d4,d5,d6,d7⟩:=HD1.out.all_8
 have hs4:=hg4.size
 have hsd:W4.drew.heap.size=W4.heap.size:=rfl
 clear hg4 hd1
 go_wp2_with fail
 clear hW4 r0 r1 r2 r3 r4 r5 r6 r7 g0
 go_region_law (first
  | (refine adt rfl (.tmp 19) (.tmp 21) 33 rfl 35 i0 _ 8 112 Tryz.underlying33 hi hz0 hzz1 hzz2 rfl (by decide) B A ys.length _ rfl HOY.out.1 W4.drew.heap.size _ _ _ rfl HO2.out.1 (ai7 HO2.out.2.1) HC1.out HC2.out HC3.out ?_;intro v3 w6 ho6 hg6 hat6;obtain ⟨A3,cap3,rfl,_⟩:=abc ho6;have HO6:=ke ho6;have HG6:=ke hg6;have HAT6:=ke hat6;have f5:=(Bx.next HB15.out (adh hg6)).fro 5;have c5:=(Bx.next HB15.out (adh hg6)).all_8.2.2.2.2.2.1;clear ho6 hg6 hat6)
  | (go_simp;go_wp2_with (go_at_call 193;refine (HA.out _ HM4.out.2.drew).mono ?_;rintro e w5 ⟨v2,zs,rfl,ho2,hbz,hm⟩;have HO2:=ke ho2;obtain ⟨A2,cap2,rfl⟩:=ho2.form;have HBZ:=ke hbz;have HM5:=ke hm;have HB15:=ke (Bx.grown (w:=W4.drew) HD1.out hm.1 (Nat.ne_of_gt hlt));have HB25:=ke (Bx.grown (w:=W4.drew) HD2.out hm.1 (by omega));have e5:=HB15.out.all_8.2.2.2.2.2.1;have HMT:=ke ((HM4.out.trans (Mv.below ((Below.refl _ _).drew) HM4.out.2)).trans hm);have HOY:=ke (HO.out.grown HMT.out.1 hcB);have HC1:=ke (us_c1 hl hbz hwide hfew hln);have HC2:=ke (us_c2 hl hbz hwide hfew hln);have HC3:=ke (Nat.le_trans hBw HMT.out.1.size);clear ho2 hbz hm)))
 all_goals
  obtain ⟨W7,hW7⟩:∃ W7,w6.setCell ⟨w.heap.size,5,none⟩ (.slice A3 (ys.length+zs.length) cap3)=W7:=⟨_,rfl⟩
  have hg7:w6.grownBy W7 (some w.heap.size):=by rw [← hW7];exact aac _ _ _ _
  have hq1:Bx W7 w.heap.size #[.int .i64 k,.int .i32 0,.string ⟨#[]⟩,.string nm,.string ty,.slice A3 (ys.length+zs.length) cap3,.string ⟨#[]⟩,.int .i64 0] 35:=by
   rw [← hW7]
   have:=(Bx.next HB15.out (adh HG6.out)).set 5 (.slice A3 (ys.length+zs.length) cap3)
   simpa using this
  have hq2:=ke (Bx.grown (Bx.next HB25.out (adh HG6.out)) hg7 (by omega))
  have HG7:=ke hg7
  obtain ⟨r0,r1,r2,r3,r4,r5,r6,r7⟩:=hq1.all_8
  have hx2:=hq2.out
  obtain ⟨a0,a1,a2,a3,a4,a5,a6,a7⟩:=hx2.all_8
  have g0:=hx2.fro 0;have g1:=hx2.fro 1;have g2:=hx2.fro 2;have g3:=hx2.fro 3;have g4:=hx2.fro 4;have g5:=hx2.fro 5;have g6:=hx2.fro 6;have g7:=hx2.fro 7
  have HG:=ke (aaw W7 (w.heap.size+1) (.int .i64 k) (.int .i32 0) (.string ⟨#[]⟩) (.string nm) (.string ty) (.slice A3 (ys.length+zs.length) cap3) (.string ⟨#[]⟩) (.int .i64 0))
  have hs5:W4.heap.size≤w5.heap.size:=HM5.out.1.size
  have hs6:=HG6.out.size
  clear hx2 hq1 hg7 c5 f5 e5 d0 d1 d2 d3 d4 d5 d6 d7
  go_wp2_with fail
  obtain ⟨z0,z1,z2,z3,z4,z5,z6,z7⟩:=(hq2.out.to_8 (.int .i64 k) (.int .i32 0) (.string ⟨#[]⟩) (.string nm) (.string ty) (.slice A3 (ys.length+zs.length) cap3) (.string ⟨#[]⟩) (.int .i64 0)).all_8
  (try simp only [Exit.inBlock,Exit.then])
  refine bodyPost_ret (v:=.agg #[.int .i64 k,.int .i32 0,.string ⟨#[]⟩,.string nm,.string ty,.slice A3 (ys.length+zs.length) cap3,.string ⟨#[]⟩,.int .i64 0]) (by simp [results,Tryz.results176,go_sem,z0,z1,z2,z3,z4,z5,z6,z7]) rfl ?_
  have hmv:=Mv.over (Below.refl _ _) (Mv.over (Below.refl _ _) (HMT.out.trans (Mv.below (adh HG6.out) HMT.out.2)) HG7.out (Nat.le_refl _) hlt) HG.out (by omega) hlt
  have hown:∀ b,b < W4.heap.size→w.heap.size≤b→(Value.slice A3 (ys.length+zs.length) cap3).ownBlock=none∨(Value.slice A3 (ys.length+zs.length) cap3).ownBlock≠some b:=by
   intro b hb hb'
   refine .inr fun e=>?_
   rcases HAT6.out with e2|⟨k',e2,hk'⟩
   ·rw [e] at e2;have:=(HO.out.lt b e2.symm).2;omega
   ·rw [e] at e2;injection e2 with e2;omega
  have hoe:=OwnR.app2 HO.out HO2.out (by omega) (by have:=adw HBZ.out;omega) (fun g hg=>by have:=(hro g hg).1;omega) ((HO6.out.kept HG7.out (hown _ (by omega) (Nat.le_refl _))).kept HG.out (hown _ (by omega) (by omega)))
   (fun k' j u hk hlt' hne hu=>⟨hmv.1.cell (a:=⟨k',j,none⟩) hu (by simp;omega),fun e=>by
     rcases HAT6.out with e2|⟨k2,e2,hk2⟩
     ·exact hne (e.trans e2)
     ·rw [e2] at e;injection e with e;omega⟩)
   (fun k' j u hk hlt' hu=>⟨cell_past HG7.out HG.out (HG6.out.cell (a:=⟨k',j,none⟩) hu (by simp)) (by omega) (by omega),fun e=>by
     rcases HAT6.out with e2|⟨k2,e2,hk2⟩
     ·have:=(HO.out.lt k' (e.trans e2).symm).2;omega
     ·rw [e2] at e;injection e with e;omega⟩)
  have hlen:(ys ++ zs).length=ys.length+zs.length:=List.length_append
  have hne7:∀ g,ro=some g→(Value.slice A3 (ys.length+zs.length) cap3).ownBlock≠some g:=by
   intro g hg e
   have h7:=hro g hg
   rcases HAT6.out with e2|⟨k',e2,hk'⟩
   ·rw [e] at e2;exact h7.2 e2.symm
   ·rw [e] at e2;injection e2 with e2;omega
  exact ⟨.ex k 0 ⟨#[]⟩ nm ty (.slice A3 (ys.length+zs.length) cap3) (ys ++ zs) ⟨#[]⟩ 0,rfl,hoe.node hne7 k 0 ⟨#[]⟩ nm ty ⟨Nat.zero_le _,hnm,hty⟩ (ab4 (by rw [aap,aap,hbr,HBZ.out]) _ _ _ _ _),hmv⟩
theorem used_of (n:Nat) (IH:SpecR n):SpecU (n+1):=by
 intro W0 w B ro c s p k ty v xs ys hv h hn ho hbr hcB hBw hfull hl hty hro
 obtain ⟨A,rfl⟩:=hfull
 cases hsee:s.name.sees 0 aah with
 | false=>exact used_no n IH W0 w B ro c s p k ty A xs ys hv h hn ho hbr hcB hBw hl hty hro hsee
 | true=>exact used_yes n IH W0 w B ro c s p k ty A xs ys hv h hn ho hbr hcB hBw hl hty hro hsee
end
section
open Go.RowKit
theorem aaa (W0 w:World) (c:Nat) (s:RS) (p:ByteArray) (h:Rd W0 c s w) (hr:s.sees 0 p=false):Calls Tryz.prog 73 #[.pointer (some ⟨c,0,none⟩),.string p] w fun e w'=>e=.returned (.bool false)∧w=w':=by
 have HA:=ke (abo W0 w c s p h)
 rw [hr] at HA
 clear h hr
 go_enter Tryz.func73,Tryz.ntmps73
 go_wp2_with (go_at_call 118;refine HA.out.mono ?_;clear HA;rintro e w1 ⟨rfl,rfl⟩)
 go_ret
 exact ⟨rfl,rfl⟩
theorem aa3 (W0 w:World) (c:Nat) (s:RS) (p:ByteArray) (h:Rd W0 c s w) (hr:s.sees 0 p=true):Calls Tryz.prog 73 #[.pointer (some ⟨c,0,none⟩),.string p] w fun e w'=>e=.returned (.bool true)∧Mv W0 c s.skip w w':=by
 have HA:=ke (abo W0 w c s p h)
 rw [hr] at HA
 have HS:=ke (afq W0 w c s h (sees_ne hr))
 clear h hr
 go_enter Tryz.func73,Tryz.ntmps73
 go_wp2_with (first|(go_at_call 118;refine HA.out.mono ?_;clear HA;rintro e w1 ⟨rfl,rfl⟩)|(go_at_call 105;refine HS.out.mono ?_;clear HS;rintro e w1 ⟨rfl,hm⟩;have HM:=ke hm;clear hm))
 go_ret
 exact ⟨rfl,HM.out⟩
theorem ofClass_of (n:Nat) (IH:SpecU n) (W0 w:World) (c:Nat) (s:RS) (hv:Vars W0) (h:Rd W0 c s w) (hen:aaj n (.used 9 13 s.classV []) (s.class.need ado)) :
 Calls Tryz.prog 191 #[.pointer (some ⟨c,0,none⟩)] w (ExC W0 c w (run n (.used 9 13 s.classV []) (s.class.need ado))):=by
 obtain ⟨r,hr⟩:∃ r,run n (.used 9 13 s.classV []) (s.class.need ado)=r:=⟨_,rfl⟩
 rw [hr]
 have hcl:=ab7 s
 obtain ⟨cl,hcle⟩:∃ cl,s.classV=cl:=⟨_,rfl⟩
 rw [hcle] at hcl hr hen
 have hlt:=h.lt
 have hle0:=h.le
 obtain ⟨W1,hW1⟩:∃ W1,w.alloc (.cells #[.int .i64 0,.int .i32 0,.string ⟨#[]⟩,.string ⟨#[]⟩,.string ⟨#[]⟩,.slice none 0 0,.string ⟨#[]⟩,.int .i64 0] 35)=W1:=⟨_,rfl⟩
 have hb:Below w.heap.size w W1:=by rw [← hW1];exact (Below.refl _ w).alloc (Nat.le_refl _) _
 have hx:Bx W1 w.heap.size #[.int .i64 0,.int .i32 0,.string ⟨#[]⟩,.string ⟨#[]⟩,.string ⟨#[]⟩,.slice none 0 0,.string ⟨#[]⟩,.int .i64 0] 35:=by rw [← hW1];exact Bx.new _ _ _
 have hz:W1.heap.size=w.heap.size+1:=by rw [← hW1];simp
 have HM0:=ke (Mv.below hb h)
 have HX0:=ke hx
 clear hb hx
 have HC:=ke (acv W0 W1 c s HM0.out.2)
 rw [hcle] at HC
 have HN:Hid (∀ w',Rd W0 c s.class w'→Calls Tryz.prog 71 #[.pointer (some ⟨c,0,none⟩),.string ado] w' fun e w''=>e=.returned (.tuple #[])∧Mv W0 c (s.class.need ado) w' w''):=by
  show ∀ w',_
  intro w' h';exact abd W0 w' c _ ado h'
 have HU:Hid (∀ w',Rd W0 c (s.class.need ado) w'→w.heap.size < w'.heap.size→Calls Tryz.prog 176 #[.pointer (some ⟨c,0,none⟩),.agg #[.int .i64 0,.int .i32 0,.string ⟨#[]⟩,.string ⟨#[]⟩,.string cl,.slice none 0 0,.string ⟨#[]⟩,.int .i64 0],.int .i64 9,.int .i64 13] w' (UsC W0 (w.heap.size+1) none c w' r)):=by
  show ∀ w',_
  intro w' h' hs'
  have:=IH W0 w' (w.heap.size+1) none c _ 9 13 cl (.slice none 0 0) [] [] hv h' hen (OwnR.nil _ _ _) rfl (by omega) hs' ⟨none,rfl⟩ (Nat.zero_le _) hcl (by simp)
  rw [hr] at this;exact this
 clear hr hen h IH hv hcle
 go_enter Tryz.func191,Tryz.ntmps191
 go_wp2_with fail
 refine HC.out.mono ?_
 clear HC hW1
 rintro e w2 ⟨rfl,hm⟩
 have HM1:=ke (HM0.out.trans hm)
 have HB1:=ke (Bx.grown HX0.out hm.1 (by omega))
 have hs1:=hm.1.size
 clear hm
 obtain ⟨W3,hW3⟩:∃ W3,w2.alloc (.cells #[.int .i64 0,.int .i32 0,.string ⟨#[]⟩,.string ⟨#[]⟩,.string cl,.slice none 0 0,.string ⟨#[]⟩,.int .i64 0] 35)=W3:=⟨_,rfl⟩
 have hb3:Below w2.heap.size w2 W3:=by rw [← hW3];exact (Below.refl _ _).alloc (Nat.le_refl _) _
 have HY:=ke (show Bx W3 w2.heap.size #[.int .i64 0,.int .i32 0,.string ⟨#[]⟩,.string ⟨#[]⟩,.string cl,.slice none 0 0,.string ⟨#[]⟩,.int .i64 0] 35 by rw [← hW3];exact Bx.new _ _ _)
 have HM3:=ke (HM1.out.trans (Mv.below hb3 HM1.out.2))
 have HB3:=ke (Bx.next HB1.out hb3)
 have hs3:=hb3.size
 clear hb3
 subst hW3
 go_wp2_with fail
 refine (HN.out _ HM3.out.2).mono ?_
 clear HN
 rintro e w4 ⟨rfl,hm⟩
 have HM4:=ke (HM3.out.trans hm)
 have HB4:=ke (Bx.grown HB3.out hm.1 (by omega))
 obtain ⟨a0,a1,a2,a3,a4,a5,a6,a7⟩:=(Bx.grown HY.out hm.1 (by omega)).all_8
 have hs4:=hm.1.size
 clear hm
 go_wp2_with fail
 refine (HU.out _ HM4.out.2 (by omega)).mono ?_
 clear HU a0 a1 a2 a3 a4 a5 a6 a7
 rintro e w5 ⟨y,rfl,hk,hm⟩
 have HK:=ke hk
 obtain ⟨k,m,tx,nm,ty,A,cap,l,rfl,_,_,_⟩:=hk
 have HM:=ke (HM4.out.trans hm)
 have HBX:=ke (Bx.grown HB4.out hm.1 (by omega))
 clear hm
 have hx2:=HBX.out
 obtain ⟨r0,r1,r2,r3,r4,r5,r6,r7⟩:=hx2.all_8
 have g0:=hx2.fro 0;have g1:=hx2.fro 1;have g2:=hx2.fro 2;have g3:=hx2.fro 3;have g4:=hx2.fro 4;have g5:=hx2.fro 5;have g6:=hx2.fro 6;have g7:=hx2.fro 7
 have HG:=ke (aaw w5 w.heap.size (.int .i64 k) (.int .i32 m) (.string tx) (.string nm) (.string ty) (.slice A l.length cap) (.string ⟨#[]⟩) (.int .i64 0))
 clear hx2
 (try simp only [aab])
 go_wp2_with fail
 obtain ⟨z0,z1,z2,z3,z4,z5,z6,z7⟩:=(HBX.out.to_8 (.int .i64 k) (.int .i32 m) (.string tx) (.string nm) (.string ty) (.slice A l.length cap) (.string ⟨#[]⟩) (.int .i64 0)).all_8
 (try simp only [Exit.inBlock,Exit.then])
 refine bodyPost_ret (v:=.agg #[.int .i64 k,.int .i32 m,.string tx,.string nm,.string ty,.slice A l.length cap,.string ⟨#[]⟩,.int .i64 0]) (by simp [results,Tryz.results191,go_sem,z0,z1,z2,z3,z4,z5,z6,z7]) rfl ?_
 exact ⟨_,rfl,(HK.out.grown HG.out (.inl (by omega))).mono (by omega),Mv.over (Below.refl _ _) HM.out HG.out (Nat.le_refl _) hlt⟩
theorem fixed_0 (n:Nat) (W0 w:World) (c:Nat) (s:RS) (hv:Vars W0) (h:Rd W0 c s w) (hn:aaj (n+1) .fixed s) (h0:s.sees 0 acy=true):Calls Tryz.prog 192 #[.pointer (some ⟨c,0,none⟩)] w (ExC W0 c w (run (n+1) .fixed s)):=by
 have hR:run (n+1) .fixed s=([mkE 2 1 E0 E0 E0 []],s.skip):=by simp only [run,h0];simp
 have hlt:=h.lt
 have hle0:=h.le
 obtain ⟨W1,hW1⟩:∃ W1,w.alloc (.cells #[.int .i64 0,.int .i32 0,.string ⟨#[]⟩,.string ⟨#[]⟩,.string ⟨#[]⟩,.slice none 0 0,.string ⟨#[]⟩,.int .i64 0] 35)=W1:=⟨_,rfl⟩
 have hb:Below w.heap.size w W1:=by rw [← hW1];exact (Below.refl _ w).alloc (Nat.le_refl _) _
 have hx:Bx W1 w.heap.size #[.int .i64 0,.int .i32 0,.string ⟨#[]⟩,.string ⟨#[]⟩,.string ⟨#[]⟩,.slice none 0 0,.string ⟨#[]⟩,.int .i64 0] 35:=by rw [← hW1];exact Bx.new _ _ _
 have hz:W1.heap.size=w.heap.size+1:=by rw [← hW1];simp
 have HM0:=ke (Mv.below hb h)
 have HX0:=ke hx
 clear hb hx
 have T0:=ke (aa3 W0 W1 c s acy HM0.out.2 h0)
 rw [hR]
 clear hR hn h hv h0
 go_enter Tryz.func192,Tryz.ntmps192
 go_wp2_with fail
 refine T0.out.mono ?_
 clear T0 hW1
 rintro e w2 ⟨rfl,hm⟩
 have HM:=ke (HM0.out.trans hm)
 have HBX:=ke (Bx.grown HX0.out hm.1 (by omega))
 clear hm
 have HK:=ke ((OwnE.nil (w.heap.size+1) w2).node 2 1 ⟨#[]⟩ ⟨#[]⟩ ⟨#[]⟩ ⟨Nat.zero_le _,Nat.zero_le _,Nat.zero_le _⟩ (ab4 (xs:=[]) rfl _ _ _ _ _))
 have hx2:=HBX.out
 obtain ⟨r0,r1,r2,r3,r4,r5,r6,r7⟩:=hx2.all_8
 have g0:=hx2.fro 0;have g1:=hx2.fro 1;have g2:=hx2.fro 2;have g3:=hx2.fro 3;have g4:=hx2.fro 4;have g5:=hx2.fro 5;have g6:=hx2.fro 6;have g7:=hx2.fro 7
 have HG:=ke (aaw w2 w.heap.size (.int .i64 2) (.int .i32 1) (.string ⟨#[]⟩) (.string ⟨#[]⟩) (.string ⟨#[]⟩) (.slice none 0 0) (.string ⟨#[]⟩) (.int .i64 0))
 clear hx2
 (try simp only [aab])
 go_wp2_with fail
 obtain ⟨z0,z1,z2,z3,z4,z5,z6,z7⟩:=(HBX.out.to_8 (.int .i64 2) (.int .i32 1) (.string ⟨#[]⟩) (.string ⟨#[]⟩) (.string ⟨#[]⟩) (.slice none 0 0) (.string ⟨#[]⟩) (.int .i64 0)).all_8
 (try simp only [Exit.inBlock,Exit.then])
 refine bodyPost_ret (v:=.agg #[.int .i64 2,.int .i32 1,.string ⟨#[]⟩,.string ⟨#[]⟩,.string ⟨#[]⟩,.slice none 0 0,.string ⟨#[]⟩,.int .i64 0]) (by simp [results,Tryz.results192,go_sem,z0,z1,z2,z3,z4,z5,z6,z7]) rfl ?_
 exact ⟨.ex 2 1 ⟨#[]⟩ ⟨#[]⟩ ⟨#[]⟩ (.slice none 0 0) [] ⟨#[]⟩ 0,rfl,(HK.out.grown HG.out (.inl (by omega))).mono (by omega),Mv.over (Below.refl _ _) HM.out HG.out (Nat.le_refl _) hlt⟩
theorem fixed_1 (n:Nat) (W0 w:World) (c:Nat) (s:RS) (hv:Vars W0) (h:Rd W0 c s w) (hn:aaj (n+1) .fixed s) (h0:s.sees 0 acy=false) (h1:s.sees 0 abq=true):Calls Tryz.prog 192 #[.pointer (some ⟨c,0,none⟩)] w (ExC W0 c w (run (n+1) .fixed s)):=by
 have hR:run (n+1) .fixed s=([mkE 2 0 E0 E0 E0 []],s.skip):=by simp only [run,h0,h1];simp
 have hlt:=h.lt
 have hle0:=h.le
 obtain ⟨W1,hW1⟩:∃ W1,w.alloc (.cells #[.int .i64 0,.int .i32 0,.string ⟨#[]⟩,.string ⟨#[]⟩,.string ⟨#[]⟩,.slice none 0 0,.string ⟨#[]⟩,.int .i64 0] 35)=W1:=⟨_,rfl⟩
 have hb:Below w.heap.size w W1:=by rw [← hW1];exact (Below.refl _ w).alloc (Nat.le_refl _) _
 have hx:Bx W1 w.heap.size #[.int .i64 0,.int .i32 0,.string ⟨#[]⟩,.string ⟨#[]⟩,.string ⟨#[]⟩,.slice none 0 0,.string ⟨#[]⟩,.int .i64 0] 35:=by rw [← hW1];exact Bx.new _ _ _
 have hz:W1.heap.size=w.heap.size+1:=by rw [← hW1];simp
 have HM0:=ke (Mv.below hb h)
 have HX0:=ke hx
 clear hb hx
 have T0:=ke (aaa W0 W1 c s acy HM0.out.2 h0)
 have T1:=ke (aa3 W0 W1 c s abq HM0.out.2 h1)
 rw [hR]
 clear hR hn h hv h0 h1
 go_enter Tryz.func192,Tryz.ntmps192
 go_wp2_with fail
 refine T0.out.mono ?_
 clear T0
 rintro e w0 ⟨rfl,rfl⟩
 go_wp2_with fail
 refine T1.out.mono ?_
 clear T1 hW1
 rintro e w2 ⟨rfl,hm⟩
 have HM:=ke (HM0.out.trans hm)
 have HBX:=ke (Bx.grown HX0.out hm.1 (by omega))
 clear hm
 have HK:=ke ((OwnE.nil (w.heap.size+1) w2).node 2 0 ⟨#[]⟩ ⟨#[]⟩ ⟨#[]⟩ ⟨Nat.zero_le _,Nat.zero_le _,Nat.zero_le _⟩ (ab4 (xs:=[]) rfl _ _ _ _ _))
 have hx2:=HBX.out
 obtain ⟨r0,r1,r2,r3,r4,r5,r6,r7⟩:=hx2.all_8
 have g0:=hx2.fro 0;have g1:=hx2.fro 1;have g2:=hx2.fro 2;have g3:=hx2.fro 3;have g4:=hx2.fro 4;have g5:=hx2.fro 5;have g6:=hx2.fro 6;have g7:=hx2.fro 7
 have HG:=ke (aaw w2 w.heap.size (.int .i64 2) (.int .i32 0) (.string ⟨#[]⟩) (.string ⟨#[]⟩) (.string ⟨#[]⟩) (.slice none 0 0) (.string ⟨#[]⟩) (.int .i64 0))
 clear hx2
 (try simp only [aab])
 go_wp2_with fail
 obtain ⟨z0,z1,z2,z3,z4,z5,z6,z7⟩:=(HBX.out.to_8 (.int .i64 2) (.int .i32 0) (.string ⟨#[]⟩) (.string ⟨#[]⟩) (.string ⟨#[]⟩) (.slice none 0 0) (.string ⟨#[]⟩) (.int .i64 0)).all_8
 (try simp only [Exit.inBlock,Exit.then])
 refine bodyPost_ret (v:=.agg #[.int .i64 2,.int .i32 0,.string ⟨#[]⟩,.string ⟨#[]⟩,.string ⟨#[]⟩,.slice none 0 0,.string ⟨#[]⟩,.int .i64 0]) (by simp [results,Tryz.results192,go_sem,z0,z1,z2,z3,z4,z5,z6,z7]) rfl ?_
 exact ⟨.ex 2 0 ⟨#[]⟩ ⟨#[]⟩ ⟨#[]⟩ (.slice none 0 0) [] ⟨#[]⟩ 0,rfl,(HK.out.grown HG.out (.inl (by omega))).mono (by omega),Mv.over (Below.refl _ _) HM.out HG.out (Nat.le_refl _) hlt⟩
theorem fixed_2 (n:Nat) (W0 w:World) (c:Nat) (s:RS) (hv:Vars W0) (h:Rd W0 c s w) (hn:aaj (n+1) .fixed s) (h0:s.sees 0 acy=false) (h1:s.sees 0 abq=false) (h2:s.sees 0 adv=true):Calls Tryz.prog 192 #[.pointer (some ⟨c,0,none⟩)] w (ExC W0 c w (run (n+1) .fixed s)):=by
 have hR:run (n+1) .fixed s=([mkE 4 0 E0 E0 E0 []],s.skip):=by simp only [run,h0,h1,h2];simp
 have hlt:=h.lt
 have hle0:=h.le
 obtain ⟨W1,hW1⟩:∃ W1,w.alloc (.cells #[.int .i64 0,.int .i32 0,.string ⟨#[]⟩,.string ⟨#[]⟩,.string ⟨#[]⟩,.slice none 0 0,.string ⟨#[]⟩,.int .i64 0] 35)=W1:=⟨_,rfl⟩
 have hb:Below w.heap.size w W1:=by rw [← hW1];exact (Below.refl _ w).alloc (Nat.le_refl _) _
 have hx:Bx W1 w.heap.size #[.int .i64 0,.int .i32 0,.string ⟨#[]⟩,.string ⟨#[]⟩,.string ⟨#[]⟩,.slice none 0 0,.string ⟨#[]⟩,.int .i64 0] 35:=by rw [← hW1];exact Bx.new _ _ _
 have hz:W1.heap.size=w.heap.size+1:=by rw [← hW1];simp
 have HM0:=ke (Mv.below hb h)
 have HX0:=ke hx
 clear hb hx
 have T0:=ke (aaa W0 W1 c s acy HM0.out.2 h0)
 have T1:=ke (aaa W0 W1 c s abq HM0.out.2 h1)
 have T2:=ke (aa3 W0 W1 c s adv HM0.out.2 h2)
 rw [hR]
 clear hR hn h hv h0 h1 h2
 go_enter Tryz.func192,Tryz.ntmps192
 go_wp2_with fail
 refine T0.out.mono ?_
 clear T0
 rintro e w0 ⟨rfl,rfl⟩
 go_wp2_with fail
 refine T1.out.mono ?_
 clear T1
 rintro e w0 ⟨rfl,rfl⟩
 go_wp2_with fail
 refine T2.out.mono ?_
 clear T2 hW1
 rintro e w2 ⟨rfl,hm⟩
 have HM:=ke (HM0.out.trans hm)
 have HBX:=ke (Bx.grown HX0.out hm.1 (by omega))
 clear hm
 have HK:=ke ((OwnE.nil (w.heap.size+1) w2).node 4 0 ⟨#[]⟩ ⟨#[]⟩ ⟨#[]⟩ ⟨Nat.zero_le _,Nat.zero_le _,Nat.zero_le _⟩ (ab4 (xs:=[]) rfl _ _ _ _ _))
 have hx2:=HBX.out
 obtain ⟨r0,r1,r2,r3,r4,r5,r6,r7⟩:=hx2.all_8
 have g0:=hx2.fro 0;have g1:=hx2.fro 1;have g2:=hx2.fro 2;have g3:=hx2.fro 3;have g4:=hx2.fro 4;have g5:=hx2.fro 5;have g6:=hx2.fro 6;have g7:=hx2.fro 7
 have HG:=ke (aaw w2 w.heap.size (.int .i64 4) (.int .i32 0) (.string ⟨#[]⟩) (.string ⟨#[]⟩) (.string ⟨#[]⟩) (.slice none 0 0) (.string ⟨#[]⟩) (.int .i64 0))
 clear hx2
 (try simp only [aab])
 go_wp2_with fail
 obtain ⟨z0,z1,z2,z3,z4,z5,z6,z7⟩:=(HBX.out.to_8 (.int .i64 4) (.int .i32 0) (.string ⟨#[]⟩) (.string ⟨#[]⟩) (.string ⟨#[]⟩) (.slice none 0 0) (.string ⟨#[]⟩) (.int .i64 0)).all_8
 (try simp only [Exit.inBlock,Exit.then])
 refine bodyPost_ret (v:=.agg #[.int .i64 4,.int .i32 0,.string ⟨#[]⟩,.string ⟨#[]⟩,.string ⟨#[]⟩,.slice none 0 0,.string ⟨#[]⟩,.int .i64 0]) (by simp [results,Tryz.results192,go_sem,z0,z1,z2,z3,z4,z5,z6,z7]) rfl ?_
 exact ⟨.ex 4 0 ⟨#[]⟩ ⟨#[]⟩ ⟨#[]⟩ (.slice none 0 0) [] ⟨#[]⟩ 0,rfl,(HK.out.grown HG.out (.inl (by omega))).mono (by omega),Mv.over (Below.refl _ _) HM.out HG.out (Nat.le_refl _) hlt⟩
theorem fixed_3 (n:Nat) (W0 w:World) (c:Nat) (s:RS) (hv:Vars W0) (h:Rd W0 c s w) (hn:aaj (n+1) .fixed s) (h0:s.sees 0 acy=false) (h1:s.sees 0 abq=false) (h2:s.sees 0 adv=false) (h3:s.sees 0 aeh=true):Calls Tryz.prog 192 #[.pointer (some ⟨c,0,none⟩)] w (ExC W0 c w (run (n+1) .fixed s)):=by
 have hR:run (n+1) .fixed s=([mkE 5 0 E0 E0 E0 []],s.skip):=by simp only [run,h0,h1,h2,h3];simp
 have hlt:=h.lt
 have hle0:=h.le
 obtain ⟨W1,hW1⟩:∃ W1,w.alloc (.cells #[.int .i64 0,.int .i32 0,.string ⟨#[]⟩,.string ⟨#[]⟩,.string ⟨#[]⟩,.slice none 0 0,.string ⟨#[]⟩,.int .i64 0] 35)=W1:=⟨_,rfl⟩
 have hb:Below w.heap.size w W1:=by rw [← hW1];exact (Below.refl _ w).alloc (Nat.le_refl _) _
 have hx:Bx W1 w.heap.size #[.int .i64 0,.int .i32 0,.string ⟨#[]⟩,.string ⟨#[]⟩,.string ⟨#[]⟩,.slice none 0 0,.string ⟨#[]⟩,.int .i64 0] 35:=by rw [← hW1];exact Bx.new _ _ _
 have hz:W1.heap.size=w.heap.size+1:=by rw [← hW1];simp
 have HM0:=ke (Mv.below hb h)
 have HX0:=ke hx
 clear hb hx
 have T0:=ke (aaa W0 W1 c s acy HM0.out.2 h0)
 have T1:=ke (aaa W0 W1 c s abq HM0.out.2 h1)
 have T2:=ke (aaa W0 W1 c s adv HM0.out.2 h2)
 have T3:=ke (aa3 W0 W1 c s aeh HM0.out.2 h3)
 rw [hR]
 clear hR hn h hv h0 h1 h2 h3
 go_enter Tryz.func192,Tryz.ntmps192
 go_wp2_with fail
 refine T0.out.mono ?_
 clear T0
 rintro e w0 ⟨rfl,rfl⟩
 go_wp2_with fail
 refine T1.out.mono ?_
 clear T1
 rintro e w0 ⟨rfl,rfl⟩
 go_wp2_with fail
 refine T2.out.mono ?_
 clear T2
 rintro e w0 ⟨rfl,rfl⟩
 go_wp2_with fail
 refine T3.out.mono ?_
 clear T3 hW1
 rintro e w2 ⟨rfl,hm⟩
 have HM:=ke (HM0.out.trans hm)
 have HBX:=ke (Bx.grown HX0.out hm.1 (by omega))
 clear hm
 have HK:=ke ((OwnE.nil (w.heap.size+1) w2).node 5 0 ⟨#[]⟩ ⟨#[]⟩ ⟨#[]⟩ ⟨Nat.zero_le _,Nat.zero_le _,Nat.zero_le _⟩ (ab4 (xs:=[]) rfl _ _ _ _ _))
 have hx2:=HBX.out
 obtain ⟨r0,r1,r2,r3,r4,r5,r6,r7⟩:=hx2.all_8
 have g0:=hx2.fro 0;have g1:=hx2.fro 1;have g2:=hx2.fro 2;have g3:=hx2.fro 3;have g4:=hx2.fro 4;have g5:=hx2.fro 5;have g6:=hx2.fro 6;have g7:=hx2.fro 7
 have HG:=ke (aaw w2 w.heap.size (.int .i64 5) (.int .i32 0) (.string ⟨#[]⟩) (.string ⟨#[]⟩) (.string ⟨#[]⟩) (.slice none 0 0) (.string ⟨#[]⟩) (.int .i64 0))
 clear hx2
 (try simp only [aab])
 go_wp2_with fail
 obtain ⟨z0,z1,z2,z3,z4,z5,z6,z7⟩:=(HBX.out.to_8 (.int .i64 5) (.int .i32 0) (.string ⟨#[]⟩) (.string ⟨#[]⟩) (.string ⟨#[]⟩) (.slice none 0 0) (.string ⟨#[]⟩) (.int .i64 0)).all_8
 (try simp only [Exit.inBlock,Exit.then])
 refine bodyPost_ret (v:=.agg #[.int .i64 5,.int .i32 0,.string ⟨#[]⟩,.string ⟨#[]⟩,.string ⟨#[]⟩,.slice none 0 0,.string ⟨#[]⟩,.int .i64 0]) (by simp [results,Tryz.results192,go_sem,z0,z1,z2,z3,z4,z5,z6,z7]) rfl ?_
 exact ⟨.ex 5 0 ⟨#[]⟩ ⟨#[]⟩ ⟨#[]⟩ (.slice none 0 0) [] ⟨#[]⟩ 0,rfl,(HK.out.grown HG.out (.inl (by omega))).mono (by omega),Mv.over (Below.refl _ _) HM.out HG.out (Nat.le_refl _) hlt⟩
theorem fixed_4 (n:Nat) (IH:SpecU n) (W0 w:World) (c:Nat) (s:RS) (hv:Vars W0) (h:Rd W0 c s w) (hn:aaj (n+1) .fixed s) (h0:s.sees 0 acy=false) (h1:s.sees 0 abq=false) (h2:s.sees 0 adv=false) (h3:s.sees 0 aeh=false) (h4:s.sees 0 abp=true):Calls Tryz.prog 192 #[.pointer (some ⟨c,0,none⟩)] w (ExC W0 c w (run (n+1) .fixed s)):=by
 obtain ⟨r,hr⟩:∃ r,run n (.used 8 12 E0 []) (s.skip.need af5)=r:=⟨_,rfl⟩
 have hR:run (n+1) .fixed s=r:=by simp only [run,h0,h1,h2,h3,h4,hr];simp
 have hle:=ace h4
 have hen:aaj n (.used 8 12 E0 []) (s.skip.need af5):=by have h7:=aaf s;have h8:=aan s.skip af5;simp only [aaj,Md.rank] at hn ⊢;omega
 have hlt:=h.lt
 have hle0:=h.le
 obtain ⟨W1,hW1⟩:∃ W1,w.alloc (.cells #[.int .i64 0,.int .i32 0,.string ⟨#[]⟩,.string ⟨#[]⟩,.string ⟨#[]⟩,.slice none 0 0,.string ⟨#[]⟩,.int .i64 0] 35)=W1:=⟨_,rfl⟩
 have hb:Below w.heap.size w W1:=by rw [← hW1];exact (Below.refl _ w).alloc (Nat.le_refl _) _
 have hx:Bx W1 w.heap.size #[.int .i64 0,.int .i32 0,.string ⟨#[]⟩,.string ⟨#[]⟩,.string ⟨#[]⟩,.slice none 0 0,.string ⟨#[]⟩,.int .i64 0] 35:=by rw [← hW1];exact Bx.new _ _ _
 have hz:W1.heap.size=w.heap.size+1:=by rw [← hW1];simp
 have HM0:=ke (Mv.below hb h)
 have HX0:=ke hx
 clear hb hx
 have T0:=ke (aaa W0 W1 c s acy HM0.out.2 h0)
 have T1:=ke (aaa W0 W1 c s abq HM0.out.2 h1)
 have T2:=ke (aaa W0 W1 c s adv HM0.out.2 h2)
 have T3:=ke (aaa W0 W1 c s aeh HM0.out.2 h3)
 have T4:=ke (aa3 W0 W1 c s abp HM0.out.2 h4)
 have HN:Hid (∀ w',Rd W0 c s.skip w'→Calls Tryz.prog 71 #[.pointer (some ⟨c,0,none⟩),.string af5] w' fun e w''=>e=.returned (.tuple #[])∧Mv W0 c (s.skip.need af5) w' w''):=by
  show ∀ w',_
  intro w' h';exact abd W0 w' c _ af5 h'
 have HU:Hid (∀ w',Rd W0 c (s.skip.need af5) w'→w.heap.size < w'.heap.size→Calls Tryz.prog 176 #[.pointer (some ⟨c,0,none⟩),.agg #[.int .i64 0,.int .i32 0,.string ⟨#[]⟩,.string ⟨#[]⟩,.string ⟨#[]⟩,.slice none 0 0,.string ⟨#[]⟩,.int .i64 0],.int .i64 8,.int .i64 12] w' (UsC W0 (w.heap.size+1) none c w' r)):=by
  show ∀ w',_
  intro w' h' hs'
  have:=IH W0 w' (w.heap.size+1) none c _ 8 12 E0 (.slice none 0 0) [] [] hv h' hen (OwnR.nil _ _ _) rfl (by omega) hs' ⟨none,rfl⟩ (Nat.zero_le _) (Nat.zero_le _) (by simp)
  rw [hr] at this;exact this
 rw [hR]
 clear hR hn h hv h0 h1 h2 h3 h4 hr hen IH hle
 go_enter Tryz.func192,Tryz.ntmps192
 go_wp2_with fail
 refine T0.out.mono ?_
 clear T0
 rintro e w0 ⟨rfl,rfl⟩
 go_wp2_with fail
 refine T1.out.mono ?_
 clear T1
 rintro e w0 ⟨rfl,rfl⟩
 go_wp2_with fail
 refine T2.out.mono ?_
 clear T2
 rintro e w0 ⟨rfl,rfl⟩
 go_wp2_with fail
 refine T3.out.mono ?_
 clear T3
 rintro e w0 ⟨rfl,rfl⟩
 go_wp2_with fail
 refine T4.out.mono ?_
 clear T4 hW1
 rintro e w2 ⟨rfl,hm⟩
 have HM1:=ke (HM0.out.trans hm)
 have HB1:=ke (Bx.grown HX0.out hm.1 (by omega))
 have hs2:=hm.1.size
 clear hm
 go_wp2_with fail
 refine (HN.out _ HM1.out.2).mono ?_
 clear HN
 rintro e w3 ⟨rfl,hm⟩
 have HM2:=ke (HM1.out.trans hm)
 have HB2:=ke (Bx.grown HB1.out hm.1 (by omega))
 have hs3:=hm.1.size
 clear hm
 go_wp2_with fail
 refine (HU.out _ HM2.out.2 (by omega)).mono ?_
 clear HU
 rintro e w4 ⟨y,rfl,hk,hm⟩
 have HK:=ke hk
 obtain ⟨k,m,tx,nm,ty,A,cap,l,rfl,_,_,_⟩:=hk
 have HM:=ke (HM2.out.trans hm)
 have HBX:=ke (Bx.grown HB2.out hm.1 (by omega))
 clear hm
 have hx2:=HBX.out
 obtain ⟨r0,r1,r2,r3,r4,r5,r6,r7⟩:=hx2.all_8
 have g0:=hx2.fro 0;have g1:=hx2.fro 1;have g2:=hx2.fro 2;have g3:=hx2.fro 3;have g4:=hx2.fro 4;have g5:=hx2.fro 5;have g6:=hx2.fro 6;have g7:=hx2.fro 7
 have HG:=ke (aaw w4 w.heap.size (.int .i64 k) (.int .i32 m) (.string tx) (.string nm) (.string ty) (.slice A l.length cap) (.string ⟨#[]⟩) (.int .i64 0))
 clear hx2
 (try simp only [aab])
 go_wp2_with fail
 obtain ⟨z0,z1,z2,z3,z4,z5,z6,z7⟩:=(HBX.out.to_8 (.int .i64 k) (.int .i32 m) (.string tx) (.string nm) (.string ty) (.slice A l.length cap) (.string ⟨#[]⟩) (.int .i64 0)).all_8
 (try simp only [Exit.inBlock,Exit.then])
 refine bodyPost_ret (v:=.agg #[.int .i64 k,.int .i32 m,.string tx,.string nm,.string ty,.slice A l.length cap,.string ⟨#[]⟩,.int .i64 0]) (by simp [results,Tryz.results192,go_sem,z0,z1,z2,z3,z4,z5,z6,z7]) rfl ?_
 exact ⟨_,rfl,(HK.out.grown HG.out (.inl (by omega))).mono (by omega),Mv.over (Below.refl _ _) HM.out HG.out (Nat.le_refl _) hlt⟩
theorem fixed_5 (n:Nat) (IH:SpecR n) (W0 w:World) (c:Nat) (s:RS) (hv:Vars W0) (h:Rd W0 c s w) (hn:aaj (n+1) .fixed s) (h0:s.sees 0 acy=false) (h1:s.sees 0 abq=false) (h2:s.sees 0 adv=false) (h3:s.sees 0 aeh=false) (h4:s.sees 0 abp=false) (h5:s.sees 0 sNew=true):Calls Tryz.prog 192 #[.pointer (some ⟨c,0,none⟩)] w (ExC W0 c w (run (n+1) .fixed s)):=by
 obtain ⟨r,hr⟩:∃ r,run n .args s.skip.class=r:=⟨_,rfl⟩
 have hR:run (n+1) .fixed s=([mkE 14 0 E0 E0 s.skip.classV r.1],r.2):=by simp only [run,h0,h1,h2,h3,h4,h5,hr];simp
 have hle:=ace h5
 have hen:aaj n .args s.skip.class:=by have h7:=aaf s;have h8:=aaz s.skip;simp only [aaj,Md.rank] at hn ⊢;omega
 have hcl:=ab7 s.skip
 have hlt:=h.lt
 have hle0:=h.le
 obtain ⟨W1,hW1⟩:∃ W1,w.alloc (.cells #[.int .i64 0,.int .i32 0,.string ⟨#[]⟩,.string ⟨#[]⟩,.string ⟨#[]⟩,.slice none 0 0,.string ⟨#[]⟩,.int .i64 0] 35)=W1:=⟨_,rfl⟩
 have hb:Below w.heap.size w W1:=by rw [← hW1];exact (Below.refl _ w).alloc (Nat.le_refl _) _
 have hx:Bx W1 w.heap.size #[.int .i64 0,.int .i32 0,.string ⟨#[]⟩,.string ⟨#[]⟩,.string ⟨#[]⟩,.slice none 0 0,.string ⟨#[]⟩,.int .i64 0] 35:=by rw [← hW1];exact Bx.new _ _ _
 have hz:W1.heap.size=w.heap.size+1:=by rw [← hW1];simp
 have HM0:=ke (Mv.below hb h)
 have HX0:=ke hx
 clear hb hx
 have T0:=ke (aaa W0 W1 c s acy HM0.out.2 h0)
 have T1:=ke (aaa W0 W1 c s abq HM0.out.2 h1)
 have T2:=ke (aaa W0 W1 c s adv HM0.out.2 h2)
 have T3:=ke (aaa W0 W1 c s aeh HM0.out.2 h3)
 have T4:=ke (aaa W0 W1 c s abp HM0.out.2 h4)
 have T5:=ke (aa3 W0 W1 c s sNew HM0.out.2 h5)
 have HC:Hid (∀ w',Rd W0 c s.skip w'→Calls Tryz.prog 72 #[.pointer (some ⟨c,0,none⟩)] w' fun e w''=>e=.returned (.string s.skip.classV)∧Mv W0 c s.skip.class w' w''):=by
  show ∀ w',_
  intro w' h';exact acv W0 w' c _ h'
 have HA:Hid (∀ w',Rd W0 c s.skip.class w'→Calls Tryz.prog 193 #[.pointer (some ⟨c,0,none⟩)] w' (LsC W0 c w' r)):=by
  show ∀ w',_
  intro w' h';have:=IH W0 w' c _ hv h' hen;rw [hr] at this;exact this
 rw [hR]
 obtain ⟨cl,hcle⟩:∃ cl,s.skip.classV=cl:=⟨_,rfl⟩
 rw [hcle] at hcl HC ⊢
 clear hcle
 clear hR hn h hv h0 h1 h2 h3 h4 h5 hr hen IH hle
 go_enter Tryz.func192,Tryz.ntmps192
 go_wp2_with fail
 refine T0.out.mono ?_
 clear T0
 rintro e w0 ⟨rfl,rfl⟩
 go_wp2_with fail
 refine T1.out.mono ?_
 clear T1
 rintro e w0 ⟨rfl,rfl⟩
 go_wp2_with fail
 refine T2.out.mono ?_
 clear T2
 rintro e w0 ⟨rfl,rfl⟩
 go_wp2_with fail
 refine T3.out.mono ?_
 clear T3
 rintro e w0 ⟨rfl,rfl⟩
 go_wp2_with fail
 refine T4.out.mono ?_
 clear T4
 rintro e w0 ⟨rfl,rfl⟩
 go_wp2_with fail
 refine T5.out.mono ?_
 clear T5 hW1
 rintro e w2 ⟨rfl,hm⟩
 have HM1:=ke (HM0.out.trans hm)
 have HB1:=ke (Bx.grown HX0.out hm.1 (by omega))
 have hs2:=hm.1.size
 clear hm
 go_wp2_with fail
 refine (HC.out _ HM1.out.2).mono ?_
 clear HC
 rintro e w3 ⟨rfl,hm⟩
 have HM2:=ke (HM1.out.trans hm)
 have HB2:=ke (Bx.grown HB1.out hm.1 (by omega))
 have hs3:=hm.1.size
 clear hm
 go_wp2_with fail
 refine (HA.out _ HM2.out.2).mono ?_
 clear HA
 rintro e w4 ⟨v,ys,rfl,ho,hbz,hm⟩
 obtain ⟨A,cap,rfl⟩:=ho.form
 have HM:=ke (HM2.out.trans hm)
 have HBX:=ke (Bx.grown HB2.out hm.1 (by omega))
 have HK:=ke (ho.node 14 0 ⟨#[]⟩ ⟨#[]⟩ cl ⟨Nat.zero_le _,Nat.zero_le _,hcl⟩ (ab4 hbz _ _ _ _ _))
 clear hm ho hbz
 have hx2:=HBX.out
 obtain ⟨r0,r1,r2,r3,r4,r5,r6,r7⟩:=hx2.all_8
 have g0:=hx2.fro 0;have g1:=hx2.fro 1;have g2:=hx2.fro 2;have g3:=hx2.fro 3;have g4:=hx2.fro 4;have g5:=hx2.fro 5;have g6:=hx2.fro 6;have g7:=hx2.fro 7
 have HG:=ke (aaw w4 w.heap.size (.int .i64 14) (.int .i32 0) (.string ⟨#[]⟩) (.string ⟨#[]⟩) (.string cl) (.slice A ys.length cap) (.string ⟨#[]⟩) (.int .i64 0))
 clear hx2
 (try simp only [aab])
 go_wp2_with fail
 obtain ⟨z0,z1,z2,z3,z4,z5,z6,z7⟩:=(HBX.out.to_8 (.int .i64 14) (.int .i32 0) (.string ⟨#[]⟩) (.string ⟨#[]⟩) (.string cl) (.slice A ys.length cap) (.string ⟨#[]⟩) (.int .i64 0)).all_8
 (try simp only [Exit.inBlock,Exit.then])
 refine bodyPost_ret (v:=.agg #[.int .i64 14,.int .i32 0,.string ⟨#[]⟩,.string ⟨#[]⟩,.string cl,.slice A ys.length cap,.string ⟨#[]⟩,.int .i64 0]) (by simp [results,Tryz.results192,go_sem,z0,z1,z2,z3,z4,z5,z6,z7]) rfl ?_
 exact ⟨.ex 14 0 ⟨#[]⟩ ⟨#[]⟩ cl (.slice A ys.length cap) ys ⟨#[]⟩ 0,rfl,(HK.out.grown HG.out (.inl (by omega))).mono (by omega),Mv.over (Below.refl _ _) HM.out HG.out (Nat.le_refl _) hlt⟩
theorem fixed_6 (n:Nat) (IH:SpecE n) (W0 w:World) (c:Nat) (s:RS) (hv:Vars W0) (h:Rd W0 c s w) (hn:aaj (n+1) .fixed s) (h0:s.sees 0 acy=false) (h1:s.sees 0 abq=false) (h2:s.sees 0 adv=false) (h3:s.sees 0 aeh=false) (h4:s.sees 0 abp=false) (h5:s.sees 0 sNew=false) (h6:s.sees 0 aah=true):Calls Tryz.prog 192 #[.pointer (some ⟨c,0,none⟩)] w (ExC W0 c w (run (n+1) .fixed s)):=by
 have hR:run (n+1) .fixed s=([hdE (run n .expr (s.enter aah)).1],(run n .expr (s.enter aah)).2.leave aa6):=by simp only [run,h0,h1,h2,h3,h4,h5,h6];simp
 have hle:=ace h6
 have hen:aaj n .expr (s.enter aah):=by have h7:=aa4 s aah;simp only [aaj,Md.rank] at hn ⊢;omega
 have hlt:=h.lt
 have hle0:=h.le
 obtain ⟨W1,hW1⟩:∃ W1,w.alloc (.cells #[.int .i64 0,.int .i32 0,.string ⟨#[]⟩,.string ⟨#[]⟩,.string ⟨#[]⟩,.slice none 0 0,.string ⟨#[]⟩,.int .i64 0] 35)=W1:=⟨_,rfl⟩
 have hb:Below w.heap.size w W1:=by rw [← hW1];exact (Below.refl _ w).alloc (Nat.le_refl _) _
 have hx:Bx W1 w.heap.size #[.int .i64 0,.int .i32 0,.string ⟨#[]⟩,.string ⟨#[]⟩,.string ⟨#[]⟩,.slice none 0 0,.string ⟨#[]⟩,.int .i64 0] 35:=by rw [← hW1];exact Bx.new _ _ _
 have hz:W1.heap.size=w.heap.size+1:=by rw [← hW1];simp
 have HM0:=ke (Mv.below hb h)
 have HX0:=ke hx
 clear hb hx
 have T0:=ke (aaa W0 W1 c s acy HM0.out.2 h0)
 have T1:=ke (aaa W0 W1 c s abq HM0.out.2 h1)
 have T2:=ke (aaa W0 W1 c s adv HM0.out.2 h2)
 have T3:=ke (aaa W0 W1 c s aeh HM0.out.2 h3)
 have T4:=ke (aaa W0 W1 c s abp HM0.out.2 h4)
 have T5:=ke (aaa W0 W1 c s sNew HM0.out.2 h5)
 have T6:=ke (abo W0 W1 c s aah HM0.out.2)
 rw [h6] at T6
 have HB:=ke (brackets_of n IH W0 W1 c s hv HM0.out.2 hen)
 rw [hR]
 obtain ⟨r,hr⟩:∃ r,([hdE (run n .expr (s.enter aah)).1],(run n .expr (s.enter aah)).2.leave aa6)=r:=⟨_,rfl⟩
 rw [hr] at HB ⊢
 clear hr
 clear hR hn h hv h0 h1 h2 h3 h4 h5 h6 hen IH hle
 go_enter Tryz.func192,Tryz.ntmps192
 go_wp2_with fail
 refine T0.out.mono ?_
 clear T0
 rintro e w0 ⟨rfl,rfl⟩
 go_wp2_with fail
 refine T1.out.mono ?_
 clear T1
 rintro e w0 ⟨rfl,rfl⟩
 go_wp2_with fail
 refine T2.out.mono ?_
 clear T2
 rintro e w0 ⟨rfl,rfl⟩
 go_wp2_with fail
 refine T3.out.mono ?_
 clear T3
 rintro e w0 ⟨rfl,rfl⟩
 go_wp2_with fail
 refine T4.out.mono ?_
 clear T4
 rintro e w0 ⟨rfl,rfl⟩
 go_wp2_with fail
 refine T5.out.mono ?_
 clear T5
 rintro e w0 ⟨rfl,rfl⟩
 go_wp2_with fail
 refine T6.out.mono ?_
 clear T6
 rintro e w0 ⟨rfl,rfl⟩
 go_wp2_with fail
 refine HB.out.mono ?_
 clear HB hW1
 rintro e w2 ⟨y,rfl,hk,hm⟩
 have HK:=ke hk
 obtain ⟨k,m,tx,nm,ty,A,cap,l,rfl,_,_,_⟩:=hk
 have HM:=ke (HM0.out.trans hm)
 have HBX:=ke (Bx.grown HX0.out hm.1 (by omega))
 clear hm
 have hx2:=HBX.out
 obtain ⟨r0,r1,r2,r3,r4,r5,r6,r7⟩:=hx2.all_8
 have g0:=hx2.fro 0;have g1:=hx2.fro 1;have g2:=hx2.fro 2;have g3:=hx2.fro 3;have g4:=hx2.fro 4;have g5:=hx2.fro 5;have g6:=hx2.fro 6;have g7:=hx2.fro 7
 have HG:=ke (aaw w2 w.heap.size (.int .i64 k) (.int .i32 m) (.string tx) (.string nm) (.string ty) (.slice A l.length cap) (.string ⟨#[]⟩) (.int .i64 0))
 clear hx2
 (try simp only [aab])
 go_wp2_with fail
 obtain ⟨z0,z1,z2,z3,z4,z5,z6,z7⟩:=(HBX.out.to_8 (.int .i64 k) (.int .i32 m) (.string tx) (.string nm) (.string ty) (.slice A l.length cap) (.string ⟨#[]⟩) (.int .i64 0)).all_8
 (try simp only [Exit.inBlock,Exit.then])
 refine bodyPost_ret (v:=.agg #[.int .i64 k,.int .i32 m,.string tx,.string nm,.string ty,.slice A l.length cap,.string ⟨#[]⟩,.int .i64 0]) (by simp [results,Tryz.results192,go_sem,z0,z1,z2,z3,z4,z5,z6,z7]) rfl ?_
 exact ⟨_,rfl,(HK.out.grown HG.out (.inl (by omega))).mono (by omega),Mv.over (Below.refl _ _) HM.out HG.out (Nat.le_refl _) hlt⟩
theorem fixed_7 (n:Nat) (W0 w:World) (c:Nat) (s:RS) (hv:Vars W0) (h:Rd W0 c s w) (hn:aaj (n+1) .fixed s) (h0:s.sees 0 acy=false) (h1:s.sees 0 abq=false) (h2:s.sees 0 adv=false) (h3:s.sees 0 aeh=false) (h4:s.sees 0 abp=false) (h5:s.sees 0 sNew=false) (h6:s.sees 0 aah=false):Calls Tryz.prog 192 #[.pointer (some ⟨c,0,none⟩)] w (ExC W0 c w (run (n+1) .fixed s)):=by
 have hR:run (n+1) .fixed s=([noE],s.fail 3):=by simp only [run,h0,h1,h2,h3,h4,h5,h6];simp
 have hlt:=h.lt
 have hle0:=h.le
 obtain ⟨W1,hW1⟩:∃ W1,w.alloc (.cells #[.int .i64 0,.int .i32 0,.string ⟨#[]⟩,.string ⟨#[]⟩,.string ⟨#[]⟩,.slice none 0 0,.string ⟨#[]⟩,.int .i64 0] 35)=W1:=⟨_,rfl⟩
 have hb:Below w.heap.size w W1:=by rw [← hW1];exact (Below.refl _ w).alloc (Nat.le_refl _) _
 have hx:Bx W1 w.heap.size #[.int .i64 0,.int .i32 0,.string ⟨#[]⟩,.string ⟨#[]⟩,.string ⟨#[]⟩,.slice none 0 0,.string ⟨#[]⟩,.int .i64 0] 35:=by rw [← hW1];exact Bx.new _ _ _
 have hz:W1.heap.size=w.heap.size+1:=by rw [← hW1];simp
 have HM0:=ke (Mv.below hb h)
 have HX0:=ke hx
 clear hb hx
 have T0:=ke (aaa W0 W1 c s acy HM0.out.2 h0)
 have T1:=ke (aaa W0 W1 c s abq HM0.out.2 h1)
 have T2:=ke (aaa W0 W1 c s adv HM0.out.2 h2)
 have T3:=ke (aaa W0 W1 c s aeh HM0.out.2 h3)
 have T4:=ke (aaa W0 W1 c s abp HM0.out.2 h4)
 have T5:=ke (aaa W0 W1 c s sNew HM0.out.2 h5)
 have T6:=ke (abo W0 W1 c s aah HM0.out.2)
 rw [h6] at T6
 have HF:=ke (afs W0 W1 c s 3 HM0.out.2)
 rw [hR]
 clear hR hn h hv h0 h1 h2 h3 h4 h5 h6
 go_enter Tryz.func192,Tryz.ntmps192
 go_wp2_with fail
 refine T0.out.mono ?_
 clear T0
 rintro e w0 ⟨rfl,rfl⟩
 go_wp2_with fail
 refine T1.out.mono ?_
 clear T1
 rintro e w0 ⟨rfl,rfl⟩
 go_wp2_with fail
 refine T2.out.mono ?_
 clear T2
 rintro e w0 ⟨rfl,rfl⟩
 go_wp2_with fail
 refine T3.out.mono ?_
 clear T3
 rintro e w0 ⟨rfl,rfl⟩
 go_wp2_with fail
 refine T4.out.mono ?_
 clear T4
 rintro e w0 ⟨rfl,rfl⟩
 go_wp2_with fail
 refine T5.out.mono ?_
 clear T5
 rintro e w0 ⟨rfl,rfl⟩
 go_wp2_with fail
 refine T6.out.mono ?_
 clear T6
 rintro e w0 ⟨rfl,rfl⟩
 go_wp2_with fail
 refine HF.out.mono ?_
 clear HF hW1
 rintro e w2 ⟨rfl,hm⟩
 have HM:=ke (HM0.out.trans hm)
 have HBX:=ke (Bx.grown HX0.out hm.1 (by omega))
 clear hm
 have HK:=ke ((OwnE.nil (w.heap.size+1) w2).node 0 0 ⟨#[]⟩ ⟨#[]⟩ ⟨#[]⟩ ⟨Nat.zero_le _,Nat.zero_le _,Nat.zero_le _⟩ (ab4 (xs:=[]) rfl _ _ _ _ _))
 have hx2:=HBX.out
 obtain ⟨r0,r1,r2,r3,r4,r5,r6,r7⟩:=hx2.all_8
 have g0:=hx2.fro 0;have g1:=hx2.fro 1;have g2:=hx2.fro 2;have g3:=hx2.fro 3;have g4:=hx2.fro 4;have g5:=hx2.fro 5;have g6:=hx2.fro 6;have g7:=hx2.fro 7
 have HG:=ke (aaw w2 w.heap.size (.int .i64 0) (.int .i32 0) (.string ⟨#[]⟩) (.string ⟨#[]⟩) (.string ⟨#[]⟩) (.slice none 0 0) (.string ⟨#[]⟩) (.int .i64 0))
 clear hx2
 (try simp only [aab])
 go_wp2_with fail
 obtain ⟨z0,z1,z2,z3,z4,z5,z6,z7⟩:=(HBX.out.to_8 (.int .i64 0) (.int .i32 0) (.string ⟨#[]⟩) (.string ⟨#[]⟩) (.string ⟨#[]⟩) (.slice none 0 0) (.string ⟨#[]⟩) (.int .i64 0)).all_8
 (try simp only [Exit.inBlock,Exit.then])
 refine bodyPost_ret (v:=.agg #[.int .i64 0,.int .i32 0,.string ⟨#[]⟩,.string ⟨#[]⟩,.string ⟨#[]⟩,.slice none 0 0,.string ⟨#[]⟩,.int .i64 0]) (by simp [results,Tryz.results192,go_sem,z0,z1,z2,z3,z4,z5,z6,z7]) rfl ?_
 exact ⟨.ex 0 0 ⟨#[]⟩ ⟨#[]⟩ ⟨#[]⟩ (.slice none 0 0) [] ⟨#[]⟩ 0,rfl,(HK.out.grown HG.out (.inl (by omega))).mono (by omega),Mv.over (Below.refl _ _) HM.out HG.out (Nat.le_refl _) hlt⟩
theorem fixed_of (n:Nat) (IHU:SpecU n) (IHR:SpecR n) (IHE:SpecE n):SpecX (n+1):=by
 intro W0 w c s hv h hn
 cases h0:s.sees 0 acy with
 | true=>exact fixed_0 n W0 w c s hv h hn h0
 | false =>
  cases h1:s.sees 0 abq with
  | true=>exact fixed_1 n W0 w c s hv h hn h0 h1
  | false =>
   cases h2:s.sees 0 adv with
   | true=>exact fixed_2 n W0 w c s hv h hn h0 h1 h2
   | false =>
    cases h3:s.sees 0 aeh with
    | true=>exact fixed_3 n W0 w c s hv h hn h0 h1 h2 h3
    | false =>
     cases h4:s.sees 0 abp with
     | true=>exact fixed_4 n IHU W0 w c s hv h hn h0 h1 h2 h3 h4
     | false =>
      cases h5:s.sees 0 sNew with
      | true=>exact fixed_5 n IHR W0 w c s hv h hn h0 h1 h2 h3 h4 h5
      | false =>
       cases h6:s.sees 0 aah with
       | true=>exact fixed_6 n IHE W0 w c s hv h hn h0 h1 h2 h3 h4 h5 h6
       | false=>exact fixed_7 n W0 w c s hv h hn h0 h1 h2 h3 h4 h5 h6
end
section
open Go.RowKit
def kIf:ByteArray:=⟨#[105,102]⟩
def adq:ByteArray:=⟨#[119,104,105,108,101]⟩
def aco:ByteArray:=⟨#[114,101,116,117,114,110]⟩
def aev:ByteArray:=⟨#[112,114,105,110,116]⟩
def adx:ByteArray:=⟨#[97,115,115,101,114,116]⟩
def agj:ByteArray:=⟨#[116,104,114,111,119]⟩
def kTry:ByteArray:=⟨#[116,114,121]⟩
def kElse:ByteArray:=⟨#[101,108,115,101]⟩
def acr:ByteArray:=⟨#[99,97,116,99,104]⟩
def ah4:ByteArray:=⟨#[102,105,110,97,108,108,121]⟩
def ae6:ByteArray:=⟨#[101,120,116,101,110,100,115]⟩
def ack:ByteArray:=⟨#[99,108,97,115,115]⟩
def aad:ByteArray:=⟨#[115,116,97,116,105,99]⟩
def adr:ByteArray:=⟨#[118,111,105,100]⟩
def sEq:ByteArray:=⟨#[61]⟩
def abx:ByteArray:=⟨#[59]⟩
def aip:ByteArray:=⟨#[123]⟩
def ahw:ByteArray:=⟨#[125]⟩
def mkS (k n:Int) (ty nm:ByteArray) (e a b c:List Nd):Nd:=.st k n ty nm (.slice none 0 0) (.slice none 0 0) (.slice none 0 0) (.slice none 0 0) e a b c 0
def ex (s:RS):List Nd×RS:=run (14 * s.len+9) .expr s
def ar (s:RS):List Nd×RS:=run (14 * s.len+12) .args s
def af3 (s:RS):List Nd×RS:=([hdE (ex s).1],(ex s).2.need abx)
def valE (s:RS):List Nd×RS:=af3 (s.need sEq)
def aft (s:RS):List Nd×RS:=([hdE (ex (s.need aah)).1],(ex (s.need aah)).2.need aa6)
abbrev Rb:=RS→List Nd×RS
def choS (b:Rb) (s:RS):Nd×RS :=
 if (b (aft s).2).2.sees 0 kElse=true then (mkS 4 0 E0 E0 (aft s).1 (b (aft s).2).1 (b (b (aft s).2).2.skip).1 [],(b (b (aft s).2).2.skip).2)
 else (mkS 4 0 E0 E0 (aft s).1 (b (aft s).2).1 [] [],(b (aft s).2).2)
def whlS (b:Rb) (s:RS):Nd×RS:=(mkS 5 0 E0 E0 (aft s).1 (b (aft s).2).1 [] [],(b (aft s).2).2)
def resS (s:RS):Nd×RS:=if s.sees 0 abx=true then (mkS 6 0 E0 E0 [] [] [] [],s.skip) else (mkS 6 0 E0 E0 (af3 s).1 [] [] [],(af3 s).2)
def at1 (b:Rb) (s:RS):RS:=((b s).2.need acr).need aah
def at2 (b:Rb) (s:RS):RS:=(at1 b s).class
def at3 (b:Rb) (s:RS):RS:=(at2 b s).name.need aa6
def attS (b:Rb) (s:RS):Nd×RS :=
 if (b (at3 b s)).2.sees 0 ah4=true then (mkS 10 0 (at1 b s).classV (at2 b s).nameV [] (b s).1 (b (at3 b s)).1 (b (b (at3 b s)).2.skip).1,(b (b (at3 b s)).2.skip).2)
 else (mkS 10 0 (at1 b s).classV (at2 b s).nameV [] (b s).1 (b (at3 b s)).1 [],(b (at3 b s)).2)
def supS (s:RS):Nd×RS:=(mkS 11 0 E0 E0 (ar s.skip).1 [] [] [],(ar s.skip).2.need abx)
def plaS (s:RS):Nd×RS :=
 if (ex s).2.sees 0 sEq=true then (mkS 2 0 E0 E0 (hdE (ex s).1 :: (af3 (ex s).2.skip).1) [] [] [],(af3 (ex s).2.skip).2)
 else (mkS 3 0 E0 E0 [hdE (ex s).1] [] [] [],(ex s).2.need abx)
def varS (s:RS):Nd×RS:=(mkS 1 0 s.typV s.typ.nameV (valE s.typ.name).1 [] [] [],(valE s.typ.name).2)
def RS.varB (s:RS):Bool:=s.sees 0 aji || s.sees 0 afe || s.sees 0 tStr || ((clP s.ws[0]?).isSome && (nmP s.ws[1]?).isSome)
def stS (b:Rb) (s:RS):Nd×RS :=
 if s.varB=true then varS s
 else if s.sees 0 kIf=true then choS b s.skip
 else if s.sees 0 adq=true then whlS b s.skip
 else if s.sees 0 aco=true then resS s.skip
 else if s.sees 0 aev=true then (mkS 7 0 E0 E0 (af3 s.skip).1 [] [] [],(af3 s.skip).2)
 else if s.sees 0 adx=true then (mkS 8 (s.skip.numR 9999) E0 E0 (af3 (s.skip.num 9999)).1 [] [] [],(af3 (s.skip.num 9999)).2)
 else if s.sees 0 agj=true then (mkS 9 0 E0 E0 (af3 s.skip).1 [] [] [],(af3 s.skip).2)
 else if s.sees 0 kTry=true then attS b s.skip
 else if s.sees 0 abp=true then (if s.sees 1 aah=true then supS s else plaS s)
 else plaS s
def kindN:Nd→Int
 | .ex k _ _ _ _ _ _ _ _=>k
 | _=>0
def leftK (k:Int):Bool:=k == 6 || k == 7 || k == 8 || k == 9
def doesK (k:Int):Bool:=k == 10 || k == 11 || k == 12 || k == 13 || k == 14
def ahk (x:Nd) (first:Bool):Bool:=match x with
 | .st k _ _ _ _ _ _ _ e _ _ _ _=>if k=11 then first else if k=2 then leftK (kindN (hdE e)) else if k=3 then doesK (kindN (hdE e)) else true
 | _=>true
def RS.lateN (s:RS) (a:Int):RS:=if s.lc=0 then { s with lc:=3,la:=a } else s
inductive Ms where
 | body (c:Bool)|loop (c:Bool) (l:List Nd)
def ae5:Nat→Ms→RS→List Nd×RS
 | 0,_,s=>([],s)
 | n+1,.body c,s=>((ae5 n (.loop c []) (s.enter aip)).1,(ae5 n (.loop c []) (s.enter aip)).2.leave ahw)
 | n+1,.loop c l,s =>
  if s.until ahw=true then
   let r:=stS (ae5 n (.body false)) s
   ae5 n (.loop c (l ++ [r.1])) (if ahk r.1 (c && l.isEmpty)=true then r.2 else r.2.lateN s.at)
  else (l,s)
def Ms.rank:Ms→Nat
 | .body _=>3|.loop ..=>2
def ab0 (n:Nat) (m:Ms) (s:RS):Prop:=4 * s.len+m.rank≤n
theorem ai1 (s:RS):(ex s).2.len≤s.len:=abm _ _ _
theorem len_ar (s:RS):(ar s).2.len≤s.len:=abm _ _ _
theorem agt (s:RS):(af3 s).2.len≤s.len - 1:=by
 have h1:=ai1 s
 have h2:=aan (ex s).2 abx
 show ((ex s).2.need abx).len≤_
 omega
theorem len_valE (s:RS):(valE s).2.len≤s.len - 1:=by
 have h1:=agt (s.need sEq)
 have h2:=aan s sEq
 show (af3 (s.need sEq)).2.len≤_
 omega
theorem ah3 (s:RS):(aft s).2.len≤s.len - 1:=by
 have h1:=ai1 (s.need aah)
 have h2:=aan s aah
 have h3:=aan (ex (s.need aah)).2 aa6
 show ((ex (s.need aah)).2.need aa6).len≤_
 omega
theorem ajy (s:RS):s.typ.len≤s.len - 1:=by
 have h1:=aaf s
 have h2:=aaz s
 unfold RS.typ
 repeat' split
 all_goals assumption
section
variable {b:Rb} (hb:∀ s,(b s).2.len≤s.len - 1)
include hb
theorem len_choS (s:RS):(choS b s).2.len≤s.len - 1:=by
 have h1:=ah3 s
 have h2:=hb (aft s).2
 have h3:=aaf (b (aft s).2).2
 have h4:=hb (b (aft s).2).2.skip
 unfold choS
 split
 ·show (b (b (aft s).2).2.skip).2.len≤_;omega
 ·show (b (aft s).2).2.len≤_;omega
theorem len_whlS (s:RS):(whlS b s).2.len≤s.len - 1:=by
 have h1:=ah3 s
 have h2:=hb (aft s).2
 show (b (aft s).2).2.len≤_;omega
theorem len_at3 (s:RS):(at3 b s).len≤s.len - 1:=by
 have h1:=hb s
 have h2:=aan (b s).2 acr
 have h3:=aan ((b s).2.need acr) aah
 have h4:=aaz (at1 b s)
 have h5:=abg (at2 b s)
 have h6:=aan (at2 b s).name aa6
 have e1:(at1 b s).len=(((b s).2.need acr).need aah).len:=rfl
 have e2:(at2 b s).len=(at1 b s).class.len:=rfl
 show ((at2 b s).name.need aa6).len≤_
 omega
theorem len_attS (s:RS):(attS b s).2.len≤s.len - 1:=by
 have h0:=len_at3 hb s
 have h2:=hb (at3 b s)
 have h3:=aaf (b (at3 b s)).2
 have h4:=hb (b (at3 b s)).2.skip
 unfold attS
 split
 ·show (b (b (at3 b s)).2.skip).2.len≤_;omega
 ·show (b (at3 b s)).2.len≤_;omega
theorem len_stS (s:RS):(stS b s).2.len≤s.len - 1:=by
 have k:=aaf s
 have h1:=len_valE s.typ.name
 have h2:=ajy s
 have h3:=abg s.typ
 have h4:=len_choS hb s.skip
 have h5:=len_whlS hb s.skip
 have h6:=agt s.skip
 have h7:=len_num s.skip 9999
 have h8:=agt (s.skip.num 9999)
 have h9:=len_attS hb s.skip
 have h10:=len_ar s.skip
 have h11:=aan (ar s.skip).2 abx
 have h12:=ai1 s
 have h13:=aan (ex s).2 abx
 have h14:=aaf (ex s).2
 have h15:=agt (ex s).2.skip
 have h16:=aaf s.skip
 have e1:(varS s).2.len=(valE s.typ.name).2.len:=rfl
 have e2:(supS s).2.len=((ar s.skip).2.need abx).len:=rfl
 have e3:(resS s.skip).2.len≤s.len - 1:=by
  unfold resS;split
  ·show s.skip.skip.len≤_;omega
  ·show (af3 s.skip).2.len≤_;omega
 have e4:(plaS s).2.len≤s.len - 1:=by
  unfold plaS;split
  ·show (af3 (ex s).2.skip).2.len≤_;omega
  ·show ((ex s).2.need abx).len≤_;omega
 unfold stS
 repeat' split
 all_goals first|exact e4|exact e3|omega|(show (af3 s.skip).2.len≤_;omega)|(show (af3 (s.skip.num 9999)).2.len≤_;omega)
end
theorem len_any {b:Rb} (hb:∀ s,(b s).2.len≤s.len) (s:RS):(stS b s).2.len≤s.len:=by
 have k:=aaf s
 have h1:=len_valE s.typ.name
 have h2:=ajy s
 have h3:=abg s.typ
 have c1:=ah3 s.skip
 have c2:=hb (aft s.skip).2
 have c3:=aaf (b (aft s.skip).2).2
 have c4:=hb (b (aft s.skip).2).2.skip
 have h4:(choS b s.skip).2.len≤s.len:=by
  unfold choS;split
  ·show (b (b (aft s.skip).2).2.skip).2.len≤_;omega
  ·show (b (aft s.skip).2).2.len≤_;omega
 have h5:(whlS b s.skip).2.len≤s.len:=by show (b (aft s.skip).2).2.len≤_;omega
 have h6:=agt s.skip
 have h7:=len_num s.skip 9999
 have h8:=agt (s.skip.num 9999)
 have d1:=hb s.skip
 have d2:=aan (b s.skip).2 acr
 have d3:=aan ((b s.skip).2.need acr) aah
 have d4:=aaz (at1 b s.skip)
 have d5:=abg (at2 b s.skip)
 have d6:=aan (at2 b s.skip).name aa6
 have e1:(at1 b s.skip).len=(((b s.skip).2.need acr).need aah).len:=rfl
 have e2:(at2 b s.skip).len=(at1 b s.skip).class.len:=rfl
 have e3:(at3 b s.skip).len=((at2 b s.skip).name.need aa6).len:=rfl
 have d7:=hb (at3 b s.skip)
 have d8:=aaf (b (at3 b s.skip)).2
 have d9:=hb (b (at3 b s.skip)).2.skip
 have h9:(attS b s.skip).2.len≤s.len:=by
  unfold attS;split
  ·show (b (b (at3 b s.skip)).2.skip).2.len≤_;omega
  ·show (b (at3 b s.skip)).2.len≤_;omega
 have h10:=len_ar s.skip
 have h11:=aan (ar s.skip).2 abx
 have h12:=ai1 s
 have h13:=aan (ex s).2 abx
 have h14:=aaf (ex s).2
 have h15:=agt (ex s).2.skip
 have h16:=aaf s.skip
 have f1:(varS s).2.len=(valE s.typ.name).2.len:=rfl
 have f2:(supS s).2.len=((ar s.skip).2.need abx).len:=rfl
 have f3:(resS s.skip).2.len≤s.len:=by
  unfold resS;split
  ·show s.skip.skip.len≤_;omega
  ·show (af3 s.skip).2.len≤_;omega
 have f4:(plaS s).2.len≤s.len:=by
  unfold plaS;split
  ·show (af3 (ex s).2.skip).2.len≤_;omega
  ·show ((ex s).2.need abx).len≤_;omega
 unfold stS
 repeat' split
 all_goals first|exact f4|exact f3|omega|(show (af3 s.skip).2.len≤_;omega)|(show (af3 (s.skip.num 9999)).2.len≤_;omega)
theorem akj (s:RS) (a:Int):(s.lateN a).len=s.len:=by unfold RS.lateN;split<;>rfl
theorem runS_len:∀ (n:Nat) (m:Ms) (s:RS),(ae5 n m s).2.len≤s.len∧∀ c,m=.body c→1≤n→(ae5 n m s).2.len≤s.len - 1:=by
 intro n
 induction n with
 | zero=>intro m s;exact ⟨Nat.le_refl _,fun _ _ h=>by omega⟩
 | succ n ih =>
  intro m s
  cases m with
  | body c =>
   have h1:=aa4 s aip
   have h2:=(ih (.loop c []) (s.enter aip)).1
   have h3:=agi (ae5 n (.loop c []) (s.enter aip)).2 ahw
   have:(ae5 (n+1) (.body c) s).2.len≤s.len - 1:=by show ((ae5 n (.loop c []) (s.enter aip)).2.leave ahw).len≤_;omega
   exact ⟨by omega,fun _ _ _=>this⟩
  | loop c l =>
   refine ⟨?_,fun _ h=>by cases h⟩
   simp only [ae5]
   split
   ·have h0:=len_any (b:=ae5 n (.body false)) (fun s=>(ih _ s).1) s
    refine Nat.le_trans (ih _ _).1 ?_
    split
    ·exact h0
    ·rw [akj];exact h0
   ·exact Nat.le_refl _
theorem len_body (n:Nat) (c:Bool) (s:RS) (hn:1≤n):(ae5 n (.body c) s).2.len≤s.len - 1:=(runS_len n _ s).2 c rfl hn
def bd (c:Bool) (s:RS):List Nd×RS:=ae5 (4 * s.len+3) (.body c) s
abbrev Pm:=ByteArray×ByteArray
def parV (s:RS):Pm×RS:=((s.typV,s.typ.nameV),s.typ.name)
def moreP:Nat→List Pm→RS→List Pm×RS
 | 0,l,s=>(l,s)
 | n+1,l,s=>if s.sees 0 aei=true then moreP n (l ++ [(parV s.skip).1]) (parV s.skip).2 else (l,s)
def lstP (s:RS):List Pm×RS:=if s.sees 0 aa6=true then ([],s) else moreP (s.len+1) [(parV s).1] (parV s).2
def parP (s:RS):List Pm×RS:=((lstP (s.need aah)).1,(lstP (s.need aah)).2.need aa6)
def mkM (st ct:Bool) (ty nm:ByteArray) (ps:List Pm) (l:List Nd):Nd:=.mt st ct ty nm (.slice none 0 0) ps (.slice none 0 0) l
def mkF (st:Bool) (ty nm:ByteArray) (l:List Nd):Nd:=.fd st ty nm (.slice none 0 0) l
def metM (st:Bool) (ty nm:ByteArray) (s:RS):Nd×RS:=(mkM st false ty nm (parP s).1 (bd false (parP s).2).1,(bd false (parP s).2).2)
def fldM (st:Bool) (ty nm:ByteArray) (s:RS):Nd×RS:=if s.sees 0 sEq=true then (mkF st ty nm [hdE (ex s.skip).1],(ex s.skip).2.need abx) else (mkF st ty nm [],s.need abx)
def ctoM (s:RS):Nd×RS:=(mkM false true E0 E0 (parP s.skip).1 (bd true (parP s.skip).2).1,(bd true (parP s.skip).2).2)
def RS.ctorB (s:RS) (own:ByteArray):Bool:=(match clP s.ws[0]? with|some t=>t.toList == own.toList|none=>false) && s.sees 1 aah
def af0 (own:ByteArray) (s:RS):Nd×RS :=
 if s.sees 0 aad=false∧(s.take aad).ctorB own=true then ctoM (s.take aad)
 else if (s.take aad).sees 0 adr=true then metM (s.sees 0 aad) adr (s.take aad).skip.nameV (s.take aad).skip.name
 else if (s.take aad).typ.name.sees 0 aah=true then metM (s.sees 0 aad) (s.take aad).typV (s.take aad).typ.nameV (s.take aad).typ.name
 else fldM (s.sees 0 aad) (s.take aad).typV (s.take aad).typ.nameV (s.take aad).typ.name
def isF:Nd→Bool
 | .fd ..=>true
 | _=>false
def ad6:Nat→ByteArray→List Nd→List Nd→RS→(List Nd×List Nd)×RS
 | 0,_,f,g,s=>((f,g),s)
 | n+1,own,f,g,s =>
  if s.until ahw=true then
   if isF (af0 own s).1=true then ad6 n own (f ++ [(af0 own s).1]) g (af0 own s).2 else ad6 n own f (g ++ [(af0 own s).1]) (af0 own s).2
  else ((f,g),s)
def kl1 (s:RS):RS:=(s.need ack).class
def kl2 (s:RS):RS:=if (kl1 s).sees 0 ae6=true then (kl1 s).skip.class else kl1 s
def clSup (s:RS):ByteArray:=if (kl1 s).sees 0 ae6=true then (kl1 s).skip.classV else E0
def kl3 (s:RS):RS:=(kl2 s).need aip
def clB (s:RS):(List Nd×List Nd)×RS:=ad6 ((kl3 s).len+1) (s.need ack).classV [] [] (kl3 s)
def clsC (s:RS):Nd×RS:=(.cl (s.need ack).classV (clSup s) (.slice none 0 0) (.slice none 0 0) (clB s).1.1 (clB s).1.2,(clB s).2.need ahw)
def ai0:Nat→List Nd→RS→List Nd×RS
 | 0,l,s=>(l,s)
 | n+1,l,s=>if s.ws.isEmpty=true then (l,s) else ai0 n (l ++ [(clsC s).1]) (clsC s).2
def prg (s:RS):List Nd×RS:=ai0 (s.len+1) [] s
theorem len_bd (c:Bool) (s:RS):(bd c s).2.len≤s.len - 1:=len_body _ _ _ (by omega)
theorem akh (s:RS):(parV s).2.len≤s.len - 1:=by
 have h1:=ajy s
 have h2:=abg s.typ
 show s.typ.name.len≤_;omega
theorem len_moreP:∀ (n:Nat) (l:List Pm) (s:RS),(moreP n l s).2.len≤s.len:=by
 intro n
 induction n with
 | zero=>intro l s;exact Nat.le_refl _
 | succ n ih =>
  intro l s
  simp only [moreP]
  split
  ·have h1:=aaf s
   have h2:=akh s.skip
   exact Nat.le_trans (ih _ _) (by omega)
  ·exact Nat.le_refl _
theorem len_lstP (s:RS):(lstP s).2.len≤s.len:=by
 unfold lstP;split
 ·exact Nat.le_refl _
 ·have h2:=akh s
  exact Nat.le_trans (len_moreP _ _ _) (by omega)
theorem aki (s:RS):(parP s).2.len≤s.len - 1:=by
 have h1:=aan s aah
 have h2:=len_lstP (s.need aah)
 have h3:=aan (lstP (s.need aah)).2 aa6
 show ((lstP (s.need aah)).2.need aa6).len≤_;omega
theorem len_metM (st:Bool) (ty nm:ByteArray) (s:RS):(metM st ty nm s).2.len≤s.len - 1:=by
 have h1:=aki s
 have h2:=len_bd false (parP s).2
 show (bd false (parP s).2).2.len≤_;omega
theorem len_fldM (st:Bool) (ty nm:ByteArray) (s:RS):(fldM st ty nm s).2.len≤s.len - 1:=by
 have h1:=aaf s
 have h2:=ai1 s.skip
 have h3:=aan (ex s.skip).2 abx
 have h4:=aan s abx
 unfold fldM;split
 ·show ((ex s.skip).2.need abx).len≤_;omega
 ·show (s.need abx).len≤_;omega
theorem len_ctoM (s:RS):(ctoM s).2.len≤s.len - 1:=by
 have h1:=aaf s
 have h2:=aki s.skip
 have h3:=len_bd true (parP s.skip).2
 show (bd true (parP s.skip).2).2.len≤_;omega
theorem len_take (s:RS) (p:ByteArray):(s.take p).len≤s.len:=by
 have:=aaf s
 unfold RS.take;split<;>omega
theorem len_memM (own:ByteArray) (s:RS):(af0 own s).2.len≤s.len - 1:=by
 have h0:=len_take s aad
 have h1:=len_ctoM (s.take aad)
 have h2:=aaf (s.take aad)
 have h3:=abg (s.take aad).skip
 have h4:=len_metM (s.sees 0 aad) adr (s.take aad).skip.nameV (s.take aad).skip.name
 have h5:=ajy (s.take aad)
 have h6:=abg (s.take aad).typ
 have h7:=len_metM (s.sees 0 aad) (s.take aad).typV (s.take aad).typ.nameV (s.take aad).typ.name
 have h8:=len_fldM (s.sees 0 aad) (s.take aad).typV (s.take aad).typ.nameV (s.take aad).typ.name
 unfold af0
 repeat' split
 all_goals omega
theorem len_loopC:∀ (n:Nat) (own:ByteArray) (f g:List Nd) (s:RS),(ad6 n own f g s).2.len≤s.len:=by
 intro n
 induction n with
 | zero=>intro own f g s;exact Nat.le_refl _
 | succ n ih =>
  intro own f g s
  have:=len_memM own s
  simp only [ad6]
  repeat' split
  ·exact Nat.le_trans (ih _ _ _ _) (by omega)
  ·exact Nat.le_trans (ih _ _ _ _) (by omega)
  ·exact Nat.le_refl _
theorem len_kl3 (s:RS):(kl3 s).len≤s.len - 1:=by
 have h1:=aan s ack
 have h2:=aaz (s.need ack)
 have h3:=aaf (kl1 s)
 have h4:=aaz (kl1 s).skip
 have h5:=aan (kl2 s) aip
 have e1:(kl1 s).len=(s.need ack).class.len:=rfl
 have e2:(kl2 s).len≤(kl1 s).len:=by unfold kl2;split<;>omega
 show ((kl2 s).need aip).len≤_;omega
theorem len_clsC (s:RS):(clsC s).2.len≤s.len - 1:=by
 have h1:=len_kl3 s
 have h2:(clB s).2.len≤(kl3 s).len:=len_loopC _ _ _ _ _
 have h3:=aan (clB s).2 ahw
 show ((clB s).2.need ahw).len≤_;omega
end
section
open Go.RowKit
def NF (t:Tg) (y:Nd):Prop:=y.tag=t∧∀ u ∈ aab y,u.oneCell'=true
def NK (t:Tg) (B:Nat) (r:Option Nat) (w:World) (x y:Nd):Prop :=
 NF t y∧(∀ ws,(∀ k j u,B≤k→some k≠r→w.cell? ⟨k,j,none⟩=some u→ws.cell? ⟨k,j,none⟩=some u)→Kd ws y)∧aaq y=aaq x
theorem NK.mono {t:Tg} {B C:Nat} {r:Option Nat} {w:World} {x y:Nd} (h:NK t B r w x y) (hC:C≤B):NK t C r w x y :=
 ⟨h.1,fun ws hk=>h.2.1 ws fun k j u hB hr hu=>hk k j u (Nat.le_trans hC hB) hr hu,h.2.2⟩
theorem NK.next {t:Tg} {B:Nat} {r:Option Nat} {w w':World} {x y:Nd} (h:NK t B r w x y) (hw:∀ k j u,B≤k→some k≠r→w.cell? ⟨k,j,none⟩=some u→w'.cell? ⟨k,j,none⟩=some u):NK t B r w' x y :=
 ⟨h.1,fun ws hk=>h.2.1 ws fun k j u hB hr hu=>hk k j u hB hr (hw k j u hB hr hu),h.2.2⟩
theorem NK.grown {t:Tg} {B g:Nat} {r:Option Nat} {w w':World} {x y:Nd} (h:NK t B r w x y) (hg:w.grownBy w' (some g)) (hB:g < B∨r=some g):NK t B r w' x y :=
 h.next fun k j u hk hr hu=>(World.cell?_of_block (a:=⟨k,j,none⟩) (hg.block k (World.block_lt_of_cell? w (a:=⟨k,j,none⟩) hu) (by
  intro e
  rcases hB with h|h
  ·injection e with e;omega
  ·exact hr (e.trans h.symm)))).trans hu
theorem NK.below {t:Tg} {B:Nat} {r:Option Nat} {w w':World} {x y:Nd} (h:NK t B r w x y) (hb:Below w.heap.size w w'):NK t B r w' x y:=h.next fun k j u _ _ hu=>Keep.below hb _ _ hu
theorem ExK.nk {B:Nat} {r:Option Nat} {w:World} {x y:Nd} (h:ExK B r w x y):NK .ex B r w x y:=by
 obtain ⟨hex,hk⟩:=h.kd
 obtain ⟨k,n,tx,nm,ty,A,cap,l,e,hs,hf,hb⟩:=h
 refine ⟨⟨hex.tag,fun u hu=>ai7 (es:=[y]) (by simpa using hex) u (by simpa using hu)⟩,hk,hb⟩
def OwnT (t:Tg) (T:TypeId) (B:Nat) (r:Option Nat) (w:World) (v:Value) (ys:List Nd):Prop :=
 w.ownsRow B T t.sz v ys.length (ys.flatMap aab)∧(∀ y ∈ ys,NF t y)∧KR B v.ownBlock r w ys∧ys.length≤2000000
section
variable {t:Tg} {T:TypeId} {B:Nat} {r:Option Nat} {w w':World} {v:Value} {ys:List Nd}
theorem OwnT.nil:OwnT t T B r w (.slice none 0 0) []:=⟨World.ownsRow_nil _ _ _ _,by simp,fun _ _=>trivial,by simp⟩
theorem OwnT.lt (h:OwnT t T B r w v ys):∀ k,v.ownBlock=some k→B≤k∧k < w.heap.size:=h.1.lt
theorem OwnT.form (h:OwnT t T B r w v ys):∃ A cap,v=.slice A ys.length cap:=by obtain ⟨A,cap,e,_⟩:=abc h.1;exact ⟨A,cap,e⟩
theorem OwnT.one' (h:OwnT t T B r w v ys):∀ u ∈ ys.flatMap aab,u.oneCell'=true:=by
 intro u hu
 rw [List.mem_flatMap] at hu
 obtain ⟨x,hx,hu⟩:=hu
 exact (h.2.1 x hx).2 u hu
theorem OwnT.other {g:Nat} (h:OwnT t T B r w v ys) (hg:w.grownBy w' (some g)) (hv:v.ownBlock≠some g) (hr:g < B∨r=some g):OwnT t T B r w' v ys :=
 ⟨h.1.kept hg (by
   cases hv':v.ownBlock with
   | none=>exact .inl rfl
   | some k=>exact .inr (by rw [hv'] at hv;simpa using hv)),h.2.1,fun ws hs=>h.2.2.1 ws fun k j u hk n1 n2 hu=>hs k j u hk n1 n2 ((World.cell?_of_block (a:=⟨k,j,none⟩) (hg.block k (World.block_lt_of_cell? w (a:=⟨k,j,none⟩) hu) (by
    intro e
    rcases hr with h'|h'
    ·injection e with e;omega
    ·exact n2 (e.trans h'.symm)))).trans hu),h.2.2.2⟩
theorem OwnT.grown {c:Nat} (h:OwnT t T B r w v ys) (hg:w.grownBy w' (some c)) (hc:c < B):OwnT t T B r w' v ys :=
 h.other hg (fun e=>by have:=(h.lt c e).1;omega) (.inl hc)
theorem OwnT.below (h:OwnT t T B r w v ys) (hb:Below w.heap.size w w'):OwnT t T B r w' v ys :=
 ⟨abr h.1 hb,h.2.1,fun ws hs=>h.2.2.1 ws fun k j u hk n1 n2 hu=>hs k j u hk n1 n2 (Keep.below hb _ _ hu),h.2.2.2⟩
theorem OwnT.excl {g:Nat} (h:OwnT t T B none w v ys) (hb:Below w.heap.size w w') (hg:w.heap.size≤g):OwnT t T B (some g) w' v ys:=by
 refine ⟨abr h.1 hb,h.2.1,fun ws hs=>h.2.2.1 ws fun k j u hk n1 _ hu=>?_,h.2.2.2⟩
 have hlt:=World.block_lt_of_cell? w (a:=⟨k,j,none⟩) hu
 simp only at hlt
 exact hs k j u hk n1 (by simp;omega) (Keep.below hb _ _ hu)
theorem OwnT.fk (h:OwnT t T B r w v ys):FkL B w t v ys:=by
 obtain ⟨ho,hx,hk,hm⟩:=h
 have ht:∀ x ∈ ys,x.tag=t:=fun x hx'=>(hx x hx').1
 intro ws hs
 refine ⟨?_,hk ws fun k j u hB _ _ hu=>hs k j u hB hu⟩
 obtain ⟨A,cap,rfl,hc⟩:=abc ho
 refine ⟨A,cap,rfl,⟨by unfold maxLen;omega,hc⟩,ht,fun hn=>?_⟩
 obtain ⟨g,cap',hv,hg,hl,hat⟩:=ags ho hn
 injection hv with h1 h2 h3
 refine ⟨g,0,h1,fun i x hx j u hu=>?_⟩
 have hj:j < t.sz:=by rw [← ht x (List.mem_of_getElem? hx),← acs];exact (List.getElem?_eq_some_iff.1 hu).1
 have:=(hat (i * t.sz+j) u (by rw [ah7 ys i j x ht hx hj];exact hu)).1
 rw [Nat.zero_add]
 exact hs g _ u hg this
theorem OwnT.one {x y:Nd} (h:NK t B r w x y) (hB:B≤w.heap.size):OwnT t T B r (w.alloc (.cells (aab y).toArray T)) (.slice (some ⟨w.heap.size,0,none⟩) 1 1) [y]:=by
 obtain ⟨hex,hk,_⟩:=h
 have hl:=World.ownsRow_lit (base:=B) (e:=T) (size:=t.sz) w (aab y).toArray 1 hB (by unfold maxLen;omega) (by simp [acs,hex.1])
 refine ⟨by simpa using hl,by simpa using hex,?_,by simp⟩
 intro ws hs
 refine ⟨hk ws fun k j u hB' hr hu=>hs k j u hB' ?_ hr (Keep.below ((Below.refl _ w).alloc (Nat.le_refl _) _) _ _ hu),trivial⟩
 have hlt:=World.block_lt_of_cell? w (a:=⟨k,j,none⟩) hu
 simp only [Value.ownBlock] at hlt ⊢
 simp;omega
theorem OwnT.app {B2:Nat} {v2 v':Value} {xs:List Nd} (h:OwnT t T B r w v xs) (h2:OwnT t T B2 none w v2 ys) (hB:B≤B2) (hv:∀ k,v.ownBlock=some k→k < B2) (hr:∀ g,r=some g→g < B2)
 (ho:w'.ownsRow B T t.sz v' (xs.length+ys.length) (xs.flatMap aab ++ ys.flatMap aab)) (hg:w.grownBy w' v.ownBlock) (hat:v'.ownBlock=v.ownBlock∨v'.ownBlock=some w.heap.size) (hm:xs.length+ys.length≤2000000):OwnT t T B r w' v' (xs ++ ys):=by
 have key:∀ k j u,some k≠v.ownBlock→w.cell? ⟨k,j,none⟩=some u→w'.cell? ⟨k,j,none⟩=some u∧some k≠v'.ownBlock:=by
  intro k j u hk hu
  have hlt:=World.block_lt_of_cell? w (a:=⟨k,j,none⟩) hu
  simp only at hlt
  refine ⟨(World.cell?_of_block (a:=⟨k,j,none⟩) (hg.block k hlt hk)).trans hu,?_⟩
  rcases hat with e|e
  ·rw [e];exact hk
  ·rw [e];intro e';injection e' with e';omega
 refine ⟨by simpa using ho,fun y hy=>?_,fun ws hs=>afb (h.2.2.1 ws fun k j u hk hne hnr hu=>?_) (h2.2.2.1 ws fun k j u hk hne _ hu=>?_),by simpa using hm⟩
 ·rcases List.mem_append.1 hy with hy|hy
  ·exact h.2.1 y hy
  ·exact h2.2.1 y hy
 ·exact hs k j u hk (key k j u hne hu).2 hnr (key k j u hne hu).1
 ·have hkv:some k≠v.ownBlock:=by
   intro e
   have:=hv k e.symm
   omega
  exact hs k j u (Nat.le_trans hB hk) (key k j u hkv hu).2 (fun e=>by have:=hr k e.symm;omega) (key k j u hkv hu).1
theorem OwnE.own (h:OwnE B w v ys):OwnT .ex 35 B none w v ys:=by
 refine ⟨h.1,fun y hy=>⟨(h.2.1 y hy).tag,fun u hu=>ai7 (es:=[y]) (by simpa using h.2.1 y hy) u (by simpa using hu)⟩,fun ws hs=>h.2.2.1 ws fun k j u hk hne hu=>hs k j u hk hne (by simp) hu,h.2.2.2⟩
end
theorem FkL.grown {B c:Nat} {w w':World} {t:Tg} {v:Value} {l:List Nd} (h:FkL B w t v l) (hg:w.grownBy w' (some c)) (hc:c < B):FkL B w' t v l :=
 h.next fun k j u hk hu=>(World.cell?_of_block (a:=⟨k,j,none⟩) (hg.block k (World.block_lt_of_cell? w (a:=⟨k,j,none⟩) hu) (by simp;omega))).trans hu
theorem FkL.one {B:Nat} {w:World} {t:Tg} {v:Value} {l:List Nd} (h:FkL B w t v l):v.oneCell'=true:=by
 obtain ⟨A,cap,rfl⟩:=h.now.1.form
 rfl
theorem ad8 {B:Nat} {w:World} {k n:Int} {ty nm:ByteArray} {ve va vb vc:Value} {e a b c e' a' b' c':List Nd} (hs:ty.size≤maxLen∧nm.size≤maxLen) (he:FkL B w .ex ve e) (ha:FkL B w .st va a) (hb:FkL B w .st vb b) (hc:FkL B w .st vc c)
 (qe:aai e=aai e') (qa:aai a=aai a') (qb:aai b=aai b') (qc:aai c=aai c'):NK .st B none w (mkS k n ty nm e' a' b' c') (.st k n ty nm ve va vb vc e a b c 0):=by
 refine ⟨⟨rfl,?_⟩,fun ws hk=>?_,?_⟩
 ·intro u hu
  simp only [aab,List.mem_cons,List.not_mem_nil,or_false] at hu
  rcases hu with rfl|rfl|rfl|rfl|rfl|rfl|rfl|rfl|rfl
  any_goals rfl
  ·exact he.one
  ·exact ha.one
  ·exact hb.one
  ·exact hc.one
 ·have hk':∀ k j u,B≤k→w.cell? ⟨k,j,none⟩=some u→ws.cell? ⟨k,j,none⟩=some u:=fun k j u hB hu=>hk k j u hB (by simp) hu
  rw [Kd]
  exact ⟨hs,he ws hk',ha ws hk',hb ws hk',hc ws hk'⟩
 ·simp only [mkS,aaq];rw [qe,qa,qb,qc]
theorem fd_node {B:Nat} {w:World} {s:Bool} {ty nm:ByteArray} {v:Value} {l l':List Nd} (hs:ty.size≤maxLen∧nm.size≤maxLen) (he:FkL B w .ex v l) (q:aai l=aai l'):NK .fd B none w (mkF s ty nm l') (.fd s ty nm v l):=by
 refine ⟨⟨rfl,?_⟩,fun ws hk=>?_,?_⟩
 ·intro u hu
  simp only [aab,List.mem_cons,List.not_mem_nil,or_false] at hu
  rcases hu with rfl|rfl|rfl|rfl
  any_goals rfl
  ·exact he.one
 ·have hk':∀ k j u,B≤k→w.cell? ⟨k,j,none⟩=some u→ws.cell? ⟨k,j,none⟩=some u:=fun k j u hB hu=>hk k j u hB (by simp) hu
  rw [Kd]
  exact ⟨hs,he ws hk'⟩
 ·simp only [mkF,aaq];rw [q]
def FkP (B:Nat) (w:World) (v:Value) (l:List Pm):Prop:=∀ ws,(∀ k j u,B≤k→w.cell? ⟨k,j,none⟩=some u→ws.cell? ⟨k,j,none⟩=some u)→Pw ws v l
theorem FkP.mono {B C:Nat} {w:World} {v:Value} {l:List Pm} (h:FkP B w v l) (hB:C≤B):FkP C w v l:=fun ws hs=>h ws fun k j u hk hu=>hs k j u (Nat.le_trans hB hk) hu
theorem FkP.grown {B c:Nat} {w w':World} {v:Value} {l:List Pm} (h:FkP B w v l) (hg:w.grownBy w' (some c)) (hc:c < B):FkP B w' v l :=
 fun ws hs=>h ws fun k j u hk hu=>hs k j u hk ((World.cell?_of_block (a:=⟨k,j,none⟩) (hg.block k (World.block_lt_of_cell? w (a:=⟨k,j,none⟩) hu) (by simp;omega))).trans hu)
theorem FkP.form {B:Nat} {w:World} {v:Value} {l:List Pm} (h:FkP B w v l):∃ A cap,v=.slice A l.length cap:=by
 obtain ⟨A,cap,e,_⟩:=h w fun _ _ _ _ h=>h
 exact ⟨A,cap,e⟩
theorem mt_node {B:Nat} {w:World} {s ct:Bool} {ty nm:ByteArray} {vp v:Value} {ps:List Pm} {l l':List Nd} (hs:ty.size≤maxLen∧nm.size≤maxLen) (hp:FkP B w vp ps) (he:FkL B w .st v l) (q:aai l=aai l'):NK .mt B none w (mkM s ct ty nm ps l') (.mt s ct ty nm vp ps v l):=by
 refine ⟨⟨rfl,?_⟩,fun ws hk=>?_,?_⟩
 ·intro u hu
  simp only [aab,List.mem_cons,List.not_mem_nil,or_false] at hu
  rcases hu with rfl|rfl|rfl|rfl|rfl|rfl
  any_goals rfl
  ·obtain ⟨A,cap,rfl⟩:=hp.form;rfl
  ·exact he.one
 ·have hk':∀ k j u,B≤k→w.cell? ⟨k,j,none⟩=some u→ws.cell? ⟨k,j,none⟩=some u:=fun k j u hB hu=>hk k j u hB (by simp) hu
  rw [Kd]
  exact ⟨hs,hp ws hk',he ws hk'⟩
 ·simp only [mkM,aaq];rw [q]
theorem cl_node {B:Nat} {w:World} {nm sp:ByteArray} {vf vm:Value} {f g f' g':List Nd} (hs:nm.size≤maxLen∧sp.size≤maxLen) (hf:FkL B w .fd vf f) (hg:FkL B w .mt vm g) (qf:aai f=aai f') (qg:aai g=aai g') :
 NK .cl B none w (.cl nm sp (.slice none 0 0) (.slice none 0 0) f' g') (.cl nm sp vf vm f g):=by
 refine ⟨⟨rfl,?_⟩,fun ws hk=>?_,?_⟩
 ·intro u hu
  simp only [aab,List.mem_cons,List.not_mem_nil,or_false] at hu
  rcases hu with rfl|rfl|rfl|rfl
  any_goals rfl
  ·exact hf.one
  ·exact hg.one
 ·have hk':∀ k j u,B≤k→w.cell? ⟨k,j,none⟩=some u→ws.cell? ⟨k,j,none⟩=some u:=fun k j u hB hu=>hk k j u hB (by simp) hu
  rw [Kd]
  exact ⟨hs,hf ws hk',hg ws hk'⟩
 ·simp only [aaq];rw [qf,qg]
theorem Tryz.infoSt:(Tryz.prog.info? 141).map (fun i=>(i.zero,i.size,i.bytes))=some (some (.agg #[.int .i64 0,.int .i32 0,.string ⟨#[]⟩,.string ⟨#[]⟩,.slice none 0 0,.slice none 0 0,.slice none 0 0,.slice none 0 0,.int .i64 0]),9,152):=by kernel_rfl
theorem Tryz.infoFd:(Tryz.prog.info? 102).map (fun i=>(i.zero,i.size,i.bytes))=some (some (.agg #[.bool false,.string ⟨#[]⟩,.string ⟨#[]⟩,.slice none 0 0]),4,64):=by kernel_rfl
theorem Tryz.infoMt:(Tryz.prog.info? 47).map (fun i=>(i.zero,i.size,i.bytes))=some (some (.agg #[.bool false,.bool false,.string ⟨#[]⟩,.string ⟨#[]⟩,.slice none 0 0,.slice none 0 0]),6,88):=by kernel_rfl
theorem Tryz.infoCl:(Tryz.prog.info? 43).map (fun i=>(i.zero,i.size,i.bytes))=some (some (.agg #[.string ⟨#[]⟩,.string ⟨#[]⟩,.slice none 0 0,.slice none 0 0]),4,80):=by kernel_rfl
theorem Tryz.infoPm:(Tryz.prog.info? 139).map (fun i=>(i.zero,i.size,i.bytes))=some (some (.agg #[.string ⟨#[]⟩,.string ⟨#[]⟩]),2,32):=by kernel_rfl
def FkX (B:Nat) (r:Option Nat) (w:World) (t:Tg) (v:Value) (l:List Nd):Prop :=
 ∀ ws,(∀ k j u,B≤k→some k≠r→w.cell? ⟨k,j,none⟩=some u→ws.cell? ⟨k,j,none⟩=some u)→Rw ws t v l∧KdL ws l
section
variable {B:Nat} {r:Option Nat} {w w':World} {t:Tg} {v:Value} {l:List Nd}
theorem FkL.x (h:FkL B w t v l):FkX B none w t v l:=fun ws hs=>h ws fun k j u hk hu=>hs k j u hk (by simp) hu
theorem FkX.fk (h:FkX B r w t v l):FkL B w t v l:=fun ws hs=>h ws fun k j u hk _ hu=>hs k j u hk hu
theorem FkX.mono {C:Nat} (h:FkX B r w t v l) (hC:C≤B):FkX C r w t v l:=fun ws hs=>h ws fun k j u hk hr hu=>hs k j u (Nat.le_trans hC hk) hr hu
theorem FkX.grown {g:Nat} (h:FkX B r w t v l) (hg:w.grownBy w' (some g)) (hB:g < B∨r=some g):FkX B r w' t v l :=
 fun ws hs=>h ws fun k j u hk hr hu=>hs k j u hk hr ((World.cell?_of_block (a:=⟨k,j,none⟩) (hg.block k (World.block_lt_of_cell? w (a:=⟨k,j,none⟩) hu) (by
  intro e
  rcases hB with h|h
  ·injection e with e;omega
  ·exact hr (e.trans h.symm)))).trans hu)
theorem FkX.excl {g:Nat} (h:FkX B none w t v l) (hb:Below w.heap.size w w') (hg:w.heap.size≤g):FkX B (some g) w' t v l:=by
 intro ws hs
 refine h ws fun k j u hk _ hu=>?_
 have hlt:=World.block_lt_of_cell? w (a:=⟨k,j,none⟩) hu
 simp only at hlt
 exact hs k j u hk (by simp;omega) (Keep.below hb _ _ hu)
theorem FkL.past {g C:Nat} (h:FkL B w t v l) (hg:g < B) (hC:C≤B):FkX C (some g) w t v l :=
 fun ws hs=>h ws fun k j u hk hu=>hs k j u (Nat.le_trans hC hk) (by simp;omega) hu
end
def StF (y:Nd):Prop:=∃ (k n:Int) (ty nm:ByteArray) (A1 A2 A3 A4:Option Addr) (c1 c2 c3 c4:Nat) (l1 l2 l3 l4:List Nd),y=.st k n ty nm (.slice A1 l1.length c1) (.slice A2 l2.length c2) (.slice A3 l3.length c3) (.slice A4 l4.length c4) l1 l2 l3 l4 0
def abw:Prop:=∀ (W0 w:World) (c:Nat) (s:RS),Vars W0→Rd W0 c s w→Calls Tryz.prog 31 #[.pointer (some ⟨c,0,none⟩)] w (ExC W0 c w (ex s))
def adi:Prop:=∀ (W0 w:World) (c:Nat) (s:RS),Vars W0→Rd W0 c s w→Calls Tryz.prog 193 #[.pointer (some ⟨c,0,none⟩)] w (LsC W0 c w (ar s))
def BlC (W0:World) (c:Nat) (w:World) (r:List Nd×RS) (e:Ending) (w':World):Prop:=∃ v ys,e=.returned v∧FkL w.heap.size w' .st v ys∧aai ys=aai r.1∧Mv W0 c r.2 w w'
def StC (W0:World) (c:Nat) (w:World) (r:Nd×RS) (e:Ending) (w':World):Prop:=∃ y,e=.returned (.agg (aab y).toArray)∧StF y∧NK .st w.heap.size none w' r.1 y∧Mv W0 c r.2 w w'
end
section
open Go.RowKit
theorem atom_nu (n:Nat) (W0 w:World) (c:Nat) (s:RS) (t:ByteArray) (a:Int) (hv:Vars W0) (h:Rd W0 c s w) (hn:aaj (n+1) .atom s) (hp:s.ws[0]?=some (.nu t,a)):Calls Tryz.prog 175 #[.pointer (some ⟨c,0,none⟩)] w (ExC W0 c w (run (n+1) .atom s)):=by
 have hR:run (n+1) .atom s=([mkE 1 (s.numR 2147483647) E0 E0 E0 []],s.num 2147483647):=by simp only [run,hp]
 have hlt:=h.lt
 have hle0:=h.le
 obtain ⟨W1,hW1⟩:∃ W1,w.alloc (.cells #[.int .i64 0,.int .i32 0,.string ⟨#[]⟩,.string ⟨#[]⟩,.string ⟨#[]⟩,.slice none 0 0,.string ⟨#[]⟩,.int .i64 0] 35)=W1:=⟨_,rfl⟩
 have hb:Below w.heap.size w W1:=by rw [← hW1];exact (Below.refl _ w).alloc (Nat.le_refl _) _
 have hx:Bx W1 w.heap.size #[.int .i64 0,.int .i32 0,.string ⟨#[]⟩,.string ⟨#[]⟩,.string ⟨#[]⟩,.slice none 0 0,.string ⟨#[]⟩,.int .i64 0] 35:=by rw [← hW1];exact Bx.new _ _ _
 have hz:W1.heap.size=w.heap.size+1:=by rw [← hW1];simp
 have HM0:=ke (Mv.below hb h)
 have HX0:=ke hx
 clear hb hx
 have HA:=ke (abl W0 W1 c 0 s HM0.out.2 (by omega))
 have hav:aar s.ws 0=(Pr.nu t).V:=by simp [aar,hp]
 rw [hav] at HA
 simp only [Pr.V] at HA
 have HX:=ke (number_any W0 W1 c s 2147483647 hv HM0.out.2)
 rw [hR]
 obtain ⟨nv,hnv⟩:∃ nv,s.numR 2147483647=nv:=⟨_,rfl⟩
 rw [hnv] at HX ⊢
 clear hnv
 clear hR hn h hv hp hav
 go_enter Tryz.func175,Tryz.ntmps175
 go_wp2_with (go_at_call 103;refine HA.out.mono ?_;rintro e w0 ⟨rfl,rfl⟩)
 refine HX.out.mono ?_
 clear HX HA hW1
 rintro e w2 ⟨rfl,hm⟩
 have HM:=ke (HM0.out.trans hm)
 have HBX:=ke (Bx.grown HX0.out hm.1 (by omega))
 clear hm
 have HK:=ke ((OwnE.nil (w.heap.size+1) w2).node 1 nv ⟨#[]⟩ ⟨#[]⟩ ⟨#[]⟩ ⟨Nat.zero_le _,Nat.zero_le _,Nat.zero_le _⟩ (ab4 (xs:=[]) rfl _ _ _ _ _))
 have hx2:=HBX.out
 obtain ⟨r0,r1,r2,r3,r4,r5,r6,r7⟩:=hx2.all_8
 have g0:=hx2.fro 0;have g1:=hx2.fro 1;have g2:=hx2.fro 2;have g3:=hx2.fro 3;have g4:=hx2.fro 4;have g5:=hx2.fro 5;have g6:=hx2.fro 6;have g7:=hx2.fro 7
 have HG:=ke (aaw w2 w.heap.size (.int .i64 1) (.int .i32 nv) (.string ⟨#[]⟩) (.string ⟨#[]⟩) (.string ⟨#[]⟩) (.slice none 0 0) (.string ⟨#[]⟩) (.int .i64 0))
 clear hx2
 (try simp only [aab])
 go_wp2_with fail
 obtain ⟨z0,z1,z2,z3,z4,z5,z6,z7⟩:=(HBX.out.to_8 (.int .i64 1) (.int .i32 nv) (.string ⟨#[]⟩) (.string ⟨#[]⟩) (.string ⟨#[]⟩) (.slice none 0 0) (.string ⟨#[]⟩) (.int .i64 0)).all_8
 (try simp only [Exit.inBlock,Exit.then])
 refine bodyPost_ret (v:=.agg #[.int .i64 1,.int .i32 nv,.string ⟨#[]⟩,.string ⟨#[]⟩,.string ⟨#[]⟩,.slice none 0 0,.string ⟨#[]⟩,.int .i64 0]) (by simp [results,Tryz.results175,go_sem,z0,z1,z2,z3,z4,z5,z6,z7]) rfl ?_
 exact ⟨.ex 1 nv ⟨#[]⟩ ⟨#[]⟩ ⟨#[]⟩ (.slice none 0 0) [] ⟨#[]⟩ 0,rfl,(HK.out.grown HG.out (.inl (by omega))).mono (by omega),Mv.over (Below.refl _ _) HM.out HG.out (Nat.le_refl _) hlt⟩
theorem atom_qu (n:Nat) (W0 w:World) (c:Nat) (s:RS) (t:ByteArray) (a:Int) (hv:Vars W0) (h:Rd W0 c s w) (hn:aaj (n+1) .atom s) (hp:s.ws[0]?=some (.qu t,a)):Calls Tryz.prog 175 #[.pointer (some ⟨c,0,none⟩)] w (ExC W0 c w (run (n+1) .atom s)):=by
 have hR:run (n+1) .atom s=([mkE 3 0 t E0 E0 []],s.skip):=by simp only [run,hp]
 have htx:=h.text hp
 simp only [Pr.text] at htx
 have hlt:=h.lt
 have hle0:=h.le
 obtain ⟨W1,hW1⟩:∃ W1,w.alloc (.cells #[.int .i64 0,.int .i32 0,.string ⟨#[]⟩,.string ⟨#[]⟩,.string ⟨#[]⟩,.slice none 0 0,.string ⟨#[]⟩,.int .i64 0] 35)=W1:=⟨_,rfl⟩
 have hb:Below w.heap.size w W1:=by rw [← hW1];exact (Below.refl _ w).alloc (Nat.le_refl _) _
 have hx:Bx W1 w.heap.size #[.int .i64 0,.int .i32 0,.string ⟨#[]⟩,.string ⟨#[]⟩,.string ⟨#[]⟩,.slice none 0 0,.string ⟨#[]⟩,.int .i64 0] 35:=by rw [← hW1];exact Bx.new _ _ _
 have hz:W1.heap.size=w.heap.size+1:=by rw [← hW1];simp
 have HM0:=ke (Mv.below hb h)
 have HX0:=ke hx
 clear hb hx
 have HA:=ke (abl W0 W1 c 0 s HM0.out.2 (by omega))
 have hav:aar s.ws 0=(Pr.qu t).V:=by simp [aar,hp]
 rw [hav] at HA
 simp only [Pr.V] at HA
 have HX:=ke (afq W0 W1 c s HM0.out.2 (ahd hp))
 rw [hR]
 clear hR hn h hv hp hav
 go_enter Tryz.func175,Tryz.ntmps175
 go_wp2_with (go_at_call 103;refine HA.out.mono ?_;rintro e w0 ⟨rfl,rfl⟩)
 refine HX.out.mono ?_
 clear HX HA hW1
 rintro e w2 ⟨rfl,hm⟩
 have HM:=ke (HM0.out.trans hm)
 have HBX:=ke (Bx.grown HX0.out hm.1 (by omega))
 clear hm
 have HK:=ke ((OwnE.nil (w.heap.size+1) w2).node 3 0 t ⟨#[]⟩ ⟨#[]⟩ ⟨htx,Nat.zero_le _,Nat.zero_le _⟩ (ab4 (xs:=[]) rfl _ _ _ _ _))
 have hx2:=HBX.out
 obtain ⟨r0,r1,r2,r3,r4,r5,r6,r7⟩:=hx2.all_8
 have g0:=hx2.fro 0;have g1:=hx2.fro 1;have g2:=hx2.fro 2;have g3:=hx2.fro 3;have g4:=hx2.fro 4;have g5:=hx2.fro 5;have g6:=hx2.fro 6;have g7:=hx2.fro 7
 have HG:=ke (aaw w2 w.heap.size (.int .i64 3) (.int .i32 0) (.string t) (.string ⟨#[]⟩) (.string ⟨#[]⟩) (.slice none 0 0) (.string ⟨#[]⟩) (.int .i64 0))
 clear hx2
 (try simp only [aab])
 go_wp2_with fail
 obtain ⟨z0,z1,z2,z3,z4,z5,z6,z7⟩:=(HBX.out.to_8 (.int .i64 3) (.int .i32 0) (.string t) (.string ⟨#[]⟩) (.string ⟨#[]⟩) (.slice none 0 0) (.string ⟨#[]⟩) (.int .i64 0)).all_8
 (try simp only [Exit.inBlock,Exit.then])
 refine bodyPost_ret (v:=.agg #[.int .i64 3,.int .i32 0,.string t,.string ⟨#[]⟩,.string ⟨#[]⟩,.slice none 0 0,.string ⟨#[]⟩,.int .i64 0]) (by simp [results,Tryz.results175,go_sem,z0,z1,z2,z3,z4,z5,z6,z7]) rfl ?_
 exact ⟨.ex 3 0 t ⟨#[]⟩ ⟨#[]⟩ (.slice none 0 0) [] ⟨#[]⟩ 0,rfl,(HK.out.grown HG.out (.inl (by omega))).mono (by omega),Mv.over (Below.refl _ _) HM.out HG.out (Nat.le_refl _) hlt⟩
theorem atom_nm (n:Nat) (IH:SpecU n) (W0 w:World) (c:Nat) (s:RS) (t:ByteArray) (a:Int) (hv:Vars W0) (h:Rd W0 c s w) (hn:aaj (n+1) .atom s) (hp:s.ws[0]?=some (.nm t,a)):Calls Tryz.prog 175 #[.pointer (some ⟨c,0,none⟩)] w (ExC W0 c w (run (n+1) .atom s)):=by
 have hR:run (n+1) .atom s=run n (.used 6 11 E0 []) s:=by simp only [run,hp]
 have hen:aaj n (.used 6 11 E0 []) s:=by simp only [aaj,Md.rank] at hn ⊢;omega
 have hlt:=h.lt
 have hle0:=h.le
 obtain ⟨W1,hW1⟩:∃ W1,w.alloc (.cells #[.int .i64 0,.int .i32 0,.string ⟨#[]⟩,.string ⟨#[]⟩,.string ⟨#[]⟩,.slice none 0 0,.string ⟨#[]⟩,.int .i64 0] 35)=W1:=⟨_,rfl⟩
 have hb:Below w.heap.size w W1:=by rw [← hW1];exact (Below.refl _ w).alloc (Nat.le_refl _) _
 have hx:Bx W1 w.heap.size #[.int .i64 0,.int .i32 0,.string ⟨#[]⟩,.string ⟨#[]⟩,.string ⟨#[]⟩,.slice none 0 0,.string ⟨#[]⟩,.int .i64 0] 35:=by rw [← hW1];exact Bx.new _ _ _
 have hz:W1.heap.size=w.heap.size+1:=by rw [← hW1];simp
 have HM0:=ke (Mv.below hb h)
 have HX0:=ke hx
 clear hb hx
 have HA:=ke (abl W0 W1 c 0 s HM0.out.2 (by omega))
 have hav:aar s.ws 0=(Pr.nm t).V:=by simp [aar,hp]
 rw [hav] at HA
 simp only [Pr.V] at HA
 have HX:=ke (IH W0 W1 (w.heap.size+1) none c s 6 11 E0 (.slice none 0 0) [] [] hv HM0.out.2 hen (OwnR.nil _ _ _) rfl (by omega) (by omega) ⟨none,rfl⟩ (Nat.zero_le _) (Nat.zero_le _) (by simp))
 rw [hR]
 obtain ⟨r,hr⟩:∃ r,run n (.used 6 11 E0 []) s=r:=⟨_,rfl⟩
 rw [hr] at HX ⊢
 clear hr hen IH
 clear hR hn h hv hp hav
 go_enter Tryz.func175,Tryz.ntmps175
 go_wp2_with (go_at_call 103;refine HA.out.mono ?_;rintro e w0 ⟨rfl,rfl⟩)
 refine HX.out.mono ?_
 clear HX HA hW1
 rintro e w2 ⟨y,rfl,hk,hm⟩
 have HK:=ke hk
 obtain ⟨k,m,tx,nm,ty,A,cap,l,rfl,_,_,_⟩:=hk
 have HM:=ke (HM0.out.trans hm)
 have HBX:=ke (Bx.grown HX0.out hm.1 (by omega))
 clear hm
 have hx2:=HBX.out
 obtain ⟨r0,r1,r2,r3,r4,r5,r6,r7⟩:=hx2.all_8
 have g0:=hx2.fro 0;have g1:=hx2.fro 1;have g2:=hx2.fro 2;have g3:=hx2.fro 3;have g4:=hx2.fro 4;have g5:=hx2.fro 5;have g6:=hx2.fro 6;have g7:=hx2.fro 7
 have HG:=ke (aaw w2 w.heap.size (.int .i64 k) (.int .i32 m) (.string tx) (.string nm) (.string ty) (.slice A l.length cap) (.string ⟨#[]⟩) (.int .i64 0))
 clear hx2
 (try simp only [aab])
 go_wp2_with fail
 obtain ⟨z0,z1,z2,z3,z4,z5,z6,z7⟩:=(HBX.out.to_8 (.int .i64 k) (.int .i32 m) (.string tx) (.string nm) (.string ty) (.slice A l.length cap) (.string ⟨#[]⟩) (.int .i64 0)).all_8
 (try simp only [Exit.inBlock,Exit.then])
 refine bodyPost_ret (v:=.agg #[.int .i64 k,.int .i32 m,.string tx,.string nm,.string ty,.slice A l.length cap,.string ⟨#[]⟩,.int .i64 0]) (by simp [results,Tryz.results175,go_sem,z0,z1,z2,z3,z4,z5,z6,z7]) rfl ?_
 exact ⟨_,rfl,(HK.out.grown HG.out (.inl (by omega))).mono (by omega),Mv.over (Below.refl _ _) HM.out HG.out (Nat.le_refl _) hlt⟩
theorem atom_cl (n:Nat) (IH:SpecU n) (W0 w:World) (c:Nat) (s:RS) (t:ByteArray) (a:Int) (hv:Vars W0) (h:Rd W0 c s w) (hn:aaj (n+1) .atom s) (hp:s.ws[0]?=some (.cl t,a)):Calls Tryz.prog 175 #[.pointer (some ⟨c,0,none⟩)] w (ExC W0 c w (run (n+1) .atom s)):=by
 have hR:run (n+1) .atom s=run n (.used 9 13 s.classV []) (s.class.need ado):=by simp only [run,hp]
 have hen:aaj n (.used 9 13 s.classV []) (s.class.need ado):=by have h7:=aaz s;have h8:=aan s.class ado;simp only [aaj,Md.rank] at hn ⊢;omega
 have hlt:=h.lt
 have hle0:=h.le
 obtain ⟨W1,hW1⟩:∃ W1,w.alloc (.cells #[.int .i64 0,.int .i32 0,.string ⟨#[]⟩,.string ⟨#[]⟩,.string ⟨#[]⟩,.slice none 0 0,.string ⟨#[]⟩,.int .i64 0] 35)=W1:=⟨_,rfl⟩
 have hb:Below w.heap.size w W1:=by rw [← hW1];exact (Below.refl _ w).alloc (Nat.le_refl _) _
 have hx:Bx W1 w.heap.size #[.int .i64 0,.int .i32 0,.string ⟨#[]⟩,.string ⟨#[]⟩,.string ⟨#[]⟩,.slice none 0 0,.string ⟨#[]⟩,.int .i64 0] 35:=by rw [← hW1];exact Bx.new _ _ _
 have hz:W1.heap.size=w.heap.size+1:=by rw [← hW1];simp
 have HM0:=ke (Mv.below hb h)
 have HX0:=ke hx
 clear hb hx
 have HA:=ke (abl W0 W1 c 0 s HM0.out.2 (by omega))
 have hav:aar s.ws 0=(Pr.cl t).V:=by simp [aar,hp]
 rw [hav] at HA
 simp only [Pr.V] at HA
 have HX:=ke (ofClass_of n IH W0 W1 c s hv HM0.out.2 hen)
 rw [hR]
 obtain ⟨r,hr⟩:∃ r,run n (.used 9 13 s.classV []) (s.class.need ado)=r:=⟨_,rfl⟩
 rw [hr] at HX ⊢
 clear hr hen IH
 clear hR hn h hv hp hav
 go_enter Tryz.func175,Tryz.ntmps175
 go_wp2_with (go_at_call 103;refine HA.out.mono ?_;rintro e w0 ⟨rfl,rfl⟩)
 refine HX.out.mono ?_
 clear HX HA hW1
 rintro e w2 ⟨y,rfl,hk,hm⟩
 have HK:=ke hk
 obtain ⟨k,m,tx,nm,ty,A,cap,l,rfl,_,_,_⟩:=hk
 have HM:=ke (HM0.out.trans hm)
 have HBX:=ke (Bx.grown HX0.out hm.1 (by omega))
 clear hm
 have hx2:=HBX.out
 obtain ⟨r0,r1,r2,r3,r4,r5,r6,r7⟩:=hx2.all_8
 have g0:=hx2.fro 0;have g1:=hx2.fro 1;have g2:=hx2.fro 2;have g3:=hx2.fro 3;have g4:=hx2.fro 4;have g5:=hx2.fro 5;have g6:=hx2.fro 6;have g7:=hx2.fro 7
 have HG:=ke (aaw w2 w.heap.size (.int .i64 k) (.int .i32 m) (.string tx) (.string nm) (.string ty) (.slice A l.length cap) (.string ⟨#[]⟩) (.int .i64 0))
 clear hx2
 (try simp only [aab])
 go_wp2_with fail
 obtain ⟨z0,z1,z2,z3,z4,z5,z6,z7⟩:=(HBX.out.to_8 (.int .i64 k) (.int .i32 m) (.string tx) (.string nm) (.string ty) (.slice A l.length cap) (.string ⟨#[]⟩) (.int .i64 0)).all_8
 (try simp only [Exit.inBlock,Exit.then])
 refine bodyPost_ret (v:=.agg #[.int .i64 k,.int .i32 m,.string tx,.string nm,.string ty,.slice A l.length cap,.string ⟨#[]⟩,.int .i64 0]) (by simp [results,Tryz.results175,go_sem,z0,z1,z2,z3,z4,z5,z6,z7]) rfl ?_
 exact ⟨_,rfl,(HK.out.grown HG.out (.inl (by omega))).mono (by omega),Mv.over (Below.refl _ _) HM.out HG.out (Nat.le_refl _) hlt⟩
theorem atom_fx (n:Nat) (IH:SpecX n) (W0 w:World) (c:Nat) (s:RS) (t:ByteArray) (a:Int) (hv:Vars W0) (h:Rd W0 c s w) (hn:aaj (n+1) .atom s) (hp:s.ws[0]?=some (.fx t,a)):Calls Tryz.prog 175 #[.pointer (some ⟨c,0,none⟩)] w (ExC W0 c w (run (n+1) .atom s)):=by
 have hR:run (n+1) .atom s=run n .fixed s:=by simp only [run,hp]
 have hen:aaj n .fixed s:=by simp only [aaj,Md.rank] at hn ⊢;omega
 have hlt:=h.lt
 have hle0:=h.le
 obtain ⟨W1,hW1⟩:∃ W1,w.alloc (.cells #[.int .i64 0,.int .i32 0,.string ⟨#[]⟩,.string ⟨#[]⟩,.string ⟨#[]⟩,.slice none 0 0,.string ⟨#[]⟩,.int .i64 0] 35)=W1:=⟨_,rfl⟩
 have hb:Below w.heap.size w W1:=by rw [← hW1];exact (Below.refl _ w).alloc (Nat.le_refl _) _
 have hx:Bx W1 w.heap.size #[.int .i64 0,.int .i32 0,.string ⟨#[]⟩,.string ⟨#[]⟩,.string ⟨#[]⟩,.slice none 0 0,.string ⟨#[]⟩,.int .i64 0] 35:=by rw [← hW1];exact Bx.new _ _ _
 have hz:W1.heap.size=w.heap.size+1:=by rw [← hW1];simp
 have HM0:=ke (Mv.below hb h)
 have HX0:=ke hx
 clear hb hx
 have HA:=ke (abl W0 W1 c 0 s HM0.out.2 (by omega))
 have hav:aar s.ws 0=(Pr.fx t).V:=by simp [aar,hp]
 rw [hav] at HA
 simp only [Pr.V] at HA
 have HX:=ke (IH W0 W1 c s hv HM0.out.2 hen)
 rw [hR]
 obtain ⟨r,hr⟩:∃ r,run n .fixed s=r:=⟨_,rfl⟩
 rw [hr] at HX ⊢
 clear hr hen IH
 clear hR hn h hv hp hav
 go_enter Tryz.func175,Tryz.ntmps175
 go_wp2_with (go_at_call 103;refine HA.out.mono ?_;rintro e w0 ⟨rfl,rfl⟩)
 refine HX.out.mono ?_
 clear HX HA hW1
 rintro e w2 ⟨y,rfl,hk,hm⟩
 have HK:=ke hk
 obtain ⟨k,m,tx,nm,ty,A,cap,l,rfl,_,_,_⟩:=hk
 have HM:=ke (HM0.out.trans hm)
 have HBX:=ke (Bx.grown HX0.out hm.1 (by omega))
 clear hm
 have hx2:=HBX.out
 obtain ⟨r0,r1,r2,r3,r4,r5,r6,r7⟩:=hx2.all_8
 have g0:=hx2.fro 0;have g1:=hx2.fro 1;have g2:=hx2.fro 2;have g3:=hx2.fro 3;have g4:=hx2.fro 4;have g5:=hx2.fro 5;have g6:=hx2.fro 6;have g7:=hx2.fro 7
 have HG:=ke (aaw w2 w.heap.size (.int .i64 k) (.int .i32 m) (.string tx) (.string nm) (.string ty) (.slice A l.length cap) (.string ⟨#[]⟩) (.int .i64 0))
 clear hx2
 (try simp only [aab])
 go_wp2_with fail
 obtain ⟨z0,z1,z2,z3,z4,z5,z6,z7⟩:=(HBX.out.to_8 (.int .i64 k) (.int .i32 m) (.string tx) (.string nm) (.string ty) (.slice A l.length cap) (.string ⟨#[]⟩) (.int .i64 0)).all_8
 (try simp only [Exit.inBlock,Exit.then])
 refine bodyPost_ret (v:=.agg #[.int .i64 k,.int .i32 m,.string tx,.string nm,.string ty,.slice A l.length cap,.string ⟨#[]⟩,.int .i64 0]) (by simp [results,Tryz.results175,go_sem,z0,z1,z2,z3,z4,z5,z6,z7]) rfl ?_
 exact ⟨_,rfl,(HK.out.grown HG.out (.inl (by omega))).mono (by omega),Mv.over (Below.refl _ _) HM.out HG.out (Nat.le_refl _) hlt⟩
theorem atom_no (n:Nat) (IH:SpecX n) (W0 w:World) (c:Nat) (s:RS) (hv:Vars W0) (h:Rd W0 c s w) (hn:aaj (n+1) .atom s) (hp:s.ws[0]?=none):Calls Tryz.prog 175 #[.pointer (some ⟨c,0,none⟩)] w (ExC W0 c w (run (n+1) .atom s)):=by
 have hR:run (n+1) .atom s=run n .fixed s:=by simp only [run,hp]
 have hen:aaj n .fixed s:=by simp only [aaj,Md.rank] at hn ⊢;omega
 have hlt:=h.lt
 have hle0:=h.le
 obtain ⟨W1,hW1⟩:∃ W1,w.alloc (.cells #[.int .i64 0,.int .i32 0,.string ⟨#[]⟩,.string ⟨#[]⟩,.string ⟨#[]⟩,.slice none 0 0,.string ⟨#[]⟩,.int .i64 0] 35)=W1:=⟨_,rfl⟩
 have hb:Below w.heap.size w W1:=by rw [← hW1];exact (Below.refl _ w).alloc (Nat.le_refl _) _
 have hx:Bx W1 w.heap.size #[.int .i64 0,.int .i32 0,.string ⟨#[]⟩,.string ⟨#[]⟩,.string ⟨#[]⟩,.slice none 0 0,.string ⟨#[]⟩,.int .i64 0] 35:=by rw [← hW1];exact Bx.new _ _ _
 have hz:W1.heap.size=w.heap.size+1:=by rw [← hW1];simp
 have HM0:=ke (Mv.below hb h)
 have HX0:=ke hx
 clear hb hx
 have HA:=ke (abl W0 W1 c 0 s HM0.out.2 (by omega))
 have hav:aar s.ws 0=.nilIface:=by simp [aar,hp]
 rw [hav] at HA
 have HX:=ke (IH W0 W1 c s hv HM0.out.2 hen)
 rw [hR]
 obtain ⟨r,hr⟩:∃ r,run n .fixed s=r:=⟨_,rfl⟩
 rw [hr] at HX ⊢
 clear hr hen IH
 clear hR hn h hv hp hav
 go_enter Tryz.func175,Tryz.ntmps175
 go_wp2_with (go_at_call 103;refine HA.out.mono ?_;rintro e w0 ⟨rfl,rfl⟩)
 refine HX.out.mono ?_
 clear HX HA hW1
 rintro e w2 ⟨y,rfl,hk,hm⟩
 have HK:=ke hk
 obtain ⟨k,m,tx,nm,ty,A,cap,l,rfl,_,_,_⟩:=hk
 have HM:=ke (HM0.out.trans hm)
 have HBX:=ke (Bx.grown HX0.out hm.1 (by omega))
 clear hm
 have hx2:=HBX.out
 obtain ⟨r0,r1,r2,r3,r4,r5,r6,r7⟩:=hx2.all_8
 have g0:=hx2.fro 0;have g1:=hx2.fro 1;have g2:=hx2.fro 2;have g3:=hx2.fro 3;have g4:=hx2.fro 4;have g5:=hx2.fro 5;have g6:=hx2.fro 6;have g7:=hx2.fro 7
 have HG:=ke (aaw w2 w.heap.size (.int .i64 k) (.int .i32 m) (.string tx) (.string nm) (.string ty) (.slice A l.length cap) (.string ⟨#[]⟩) (.int .i64 0))
 clear hx2
 (try simp only [aab])
 go_wp2_with fail
 obtain ⟨z0,z1,z2,z3,z4,z5,z6,z7⟩:=(HBX.out.to_8 (.int .i64 k) (.int .i32 m) (.string tx) (.string nm) (.string ty) (.slice A l.length cap) (.string ⟨#[]⟩) (.int .i64 0)).all_8
 (try simp only [Exit.inBlock,Exit.then])
 refine bodyPost_ret (v:=.agg #[.int .i64 k,.int .i32 m,.string tx,.string nm,.string ty,.slice A l.length cap,.string ⟨#[]⟩,.int .i64 0]) (by simp [results,Tryz.results175,go_sem,z0,z1,z2,z3,z4,z5,z6,z7]) rfl ?_
 exact ⟨_,rfl,(HK.out.grown HG.out (.inl (by omega))).mono (by omega),Mv.over (Below.refl _ _) HM.out HG.out (Nat.le_refl _) hlt⟩
theorem atom_of (n:Nat) (IHU:SpecU n) (IHX:SpecX n):SpecA (n+1):=by
 intro W0 w c s hv h hn
 cases hp:s.ws[0]? with
 | none=>exact atom_no n IHX W0 w c s hv h hn hp
 | some x =>
  obtain ⟨q,a⟩:=x
  cases q with
  | nu t=>exact atom_nu n W0 w c s t a hv h hn hp
  | qu t=>exact atom_qu n W0 w c s t a hv h hn hp
  | nm t=>exact atom_nm n IHU W0 w c s t a hv h hn hp
  | cl t=>exact atom_cl n IHU W0 w c s t a hv h hn hp
  | fx t=>exact atom_fx n IHX W0 w c s t a hv h hn hp
end
section
open Go.RowKit
def FolAt (W0 w:World) (c b2:Nat) (s:RS) (x:Nd) (k m:Int) (tx nm ty:ByteArray) (A:Option Addr) (cap:Nat) (l:List Nd) (w':World):Prop :=
 Mv W0 c s w w'∧Bx w' b2 #[.int .i64 k,.int .i32 m,.string tx,.string nm,.string ty,.slice A l.length cap,.string ⟨#[]⟩,.int .i64 0] 35∧Bx w' w.heap.size #[.int .i64 0,.int .i32 0,.string ⟨#[]⟩,.string ⟨#[]⟩,.string ⟨#[]⟩,.slice none 0 0,.string ⟨#[]⟩,.int .i64 0] 35∧ExK (w.heap.size+1) (some b2) w' x (.ex k m tx nm ty (.slice A l.length cap) l ⟨#[]⟩ 0)∧w.heap.size < b2∧c < w.heap.size∧W0.heap.size≤w.heap.size
section
variable {W0 w w' w'':World} {c b2:Nat} {s s2:RS} {x:Nd} {k m:Int} {tx nm ty:ByteArray} {A:Option Addr} {cap:Nat} {l:List Nd}
theorem FolAt.below (h:FolAt W0 w c b2 s x k m tx nm ty A cap l w') (hb:Below w'.heap.size w' w''):FolAt W0 w c b2 s x k m tx nm ty A cap l w'' :=
 ⟨h.1.trans (Mv.below hb h.1.2),h.2.1.next hb,h.2.2.1.next hb,h.2.2.2.1.below hb,h.2.2.2.2⟩
theorem FolAt.move (h:FolAt W0 w c b2 s x k m tx nm ty A cap l w') (hm:Mv W0 c s2 w' w''):FolAt W0 w c b2 s2 x k m tx nm ty A cap l w'' :=
 have h1:=h.2.2.2.2.1
 have h2:=h.2.2.2.2.2
 ⟨h.1.trans hm,h.2.1.grown hm.1 (by omega),h.2.2.1.grown hm.1 (by omega),h.2.2.2.1.grown hm.1 (.inl (by omega)),h.2.2.2.2⟩
theorem ExK.bare {B:Nat} {r:Option Nat} {x y:Nd} (h:ExK B r w x y):aaq y=aaq x:=by obtain ⟨_,_,_,_,_,_,_,_,_,_,_,hb⟩:=h;exact hb
theorem FolAt.one (h:FolAt W0 w c b2 s x k m tx nm ty A cap l w'):OwnR (w.heap.size+1) (some b2) (w'.alloc (.cells #[.int .i64 k,.int .i32 m,.string tx,.string nm,.string ty,.slice A l.length cap,.string ⟨#[]⟩,.int .i64 0] 35)) (.slice (some ⟨w'.heap.size,0,none⟩) 1 1) [.ex k m tx nm ty (.slice A l.length cap) l ⟨#[]⟩ 0]:=by
 have:=OwnR.one h.2.2.2.1 (by have:=h.2.1.lt;have:=h.2.2.2.2.1;omega)
 simpa only [aab] using this
theorem FolAt.put {x':Nd} {k' m':Int} {tx' nm' ty':ByteArray} {A':Option Addr} {cap':Nat} {l':List Nd} (h:FolAt W0 w c b2 s x' k' m' tx' nm' ty' A' cap' l' w') (hk:ExK (w.heap.size+1) (some b2) w' x (.ex k m tx nm ty (.slice A l.length cap) l ⟨#[]⟩ 0)) :
 FolAt W0 w c b2 s x k m tx nm ty A cap l ((((((((w'.setCell ⟨b2,0,none⟩ (.int .i64 k)).setCell ⟨b2,1,none⟩ (.int .i32 m)).setCell ⟨b2,2,none⟩ (.string tx)).setCell ⟨b2,3,none⟩ (.string nm)).setCell ⟨b2,4,none⟩ (.string ty)).setCell ⟨b2,5,none⟩ (.slice A l.length cap)).setCell ⟨b2,6,none⟩ (.string ⟨#[]⟩)).setCell ⟨b2,7,none⟩ (.int .i64 0)):=by
 have hg:=aaw w' b2 (.int .i64 k) (.int .i32 m) (.string tx) (.string nm) (.string ty) (.slice A l.length cap) (.string ⟨#[]⟩) (.int .i64 0)
 have h1:=h.2.2.2.2.1
 have h3:=h.2.2.2.2.2.2
 exact ⟨Mv.over (Below.refl _ _) h.1 hg (by omega) h.2.2.2.2.2.1,h.2.1.to_8 (.int .i64 k) (.int .i32 m) (.string tx) (.string nm) (.string ty) (.slice A l.length cap) (.string ⟨#[]⟩) (.int .i64 0),h.2.2.1.grown hg (by omega),hk.grown hg (.inr rfl),h.2.2.2.2⟩
end
theorem followed_of (n:Nat) (IHA:SpecA n) (IHU:∀ m,m≤n→SpecU m):SpecF (n+1):=by
 intro W0 w c s hv h hn
 obtain ⟨r,hr⟩:∃ r,run n .atom s=r:=⟨_,rfl⟩
 obtain ⟨RR,hRR⟩:∃ RR,run n (.loopF (hdE r.1)) r.2=RR:=⟨_,rfl⟩
 have hR:run (n+1) .followed s=RR:=by simp only [run,hr,hRR]
 have hen:aaj n .atom s:=by simp only [aaj,Md.rank] at hn ⊢;omega
 have hl1:r.2.len≤s.len:=by have:=abm n .atom s;rw [hr] at this;exact this
 have hen2:aaj n (.loopF (hdE r.1)) r.2:=by simp only [aaj,Md.rank] at hn ⊢;omega
 have hlt:=h.lt
 have hle0:=h.le
 obtain ⟨W1,hW1⟩:∃ W1,w.alloc (.cells #[.int .i64 0,.int .i32 0,.string ⟨#[]⟩,.string ⟨#[]⟩,.string ⟨#[]⟩,.slice none 0 0,.string ⟨#[]⟩,.int .i64 0] 35)=W1:=⟨_,rfl⟩
 have hb:Below w.heap.size w W1:=by rw [← hW1];exact (Below.refl _ w).alloc (Nat.le_refl _) _
 have hx:Bx W1 w.heap.size #[.int .i64 0,.int .i32 0,.string ⟨#[]⟩,.string ⟨#[]⟩,.string ⟨#[]⟩,.slice none 0 0,.string ⟨#[]⟩,.int .i64 0] 35:=by rw [← hW1];exact Bx.new _ _ _
 have hz:W1.heap.size=w.heap.size+1:=by rw [← hW1];simp
 have HM0:=ke (Mv.below hb h)
 have HX0:=ke hx
 clear hb hx
 have HX:=ke (IHA W0 W1 c s hv HM0.out.2 hen)
 rw [hr] at HX
 rw [hR]
 have HRR:=ke hRR
 have HEN:=ke hen2
 have HIH:=ke IHU
 clear hR hRR hr hen hen2 hn h IHA IHU hl1
 go_enter Tryz.func143,Tryz.ntmps143
 go_wp2_with fail
 refine HX.out.mono ?_
 clear HX hW1
 rintro e w2 ⟨y,rfl,hk,hm⟩
 have hs2:=hm.1.size
 have HK:=ke hk
 obtain ⟨k,m,tx,nm,ty,A,cap,l,rfl,_,_,_⟩:=hk
 have HF:=ke (show FolAt W0 w c w2.heap.size r.2 (hdE r.1) k m tx nm ty A cap l (w2.alloc (.cells #[.int .i64 k,.int .i32 m,.string tx,.string nm,.string ty,.slice A l.length cap,.string ⟨#[]⟩,.int .i64 0] 35)) from
  ⟨(HM0.out.trans hm).trans (Mv.below ((Below.refl _ _).alloc (Nat.le_refl _) _) hm.2),Bx.new _ _ _,(Bx.grown HX0.out hm.1 (by omega)).next ((Below.refl _ _).alloc (Nat.le_refl _) _),(ExK.excl HK.out ((Below.refl _ _).alloc (Nat.le_refl _) _) (Nat.le_refl _)).mono (by omega),by omega,hlt,hle0⟩)
 clear hm HK HM0 HX0
 simp only [aab]
 go_wp2_with fail
 go_loopw [7] (fun v7 wr=>∃ (m:Nat) (x:Nd) (s':RS) (k n':Int) (tx nm ty:ByteArray) (A:Option Addr) (cap:Nat) (l:List Nd),m≤n∧run m (.loopF x) s'=RR∧aaj m (.loopF x) s'∧FolAt W0 w c w2.heap.size s' x k n' tx nm ty A cap l wr) (fun v7 wr=>lenAt wr c)
 case atStart=>exact ⟨n,_,_,k,m,tx,nm,ty,A,cap,l,Nat.le_refl _,HRR.out,HEN.out,HF.out⟩
 case round =>
  obtain ⟨m,x,s',k,n',tx,nm,ty,A,cap,l,hmn,hrun,hen,hf⟩:=hrel
  obtain ⟨m,rfl⟩:∃ m',m=m'+1:=⟨m - 1,by simp only [aaj,Md.rank] at hen;omega⟩
  have hla:=abe hf.1.2
  have HF1:=ke hf
  have hb2:=hf.2.2.2.2.1
  have hlt2:w2.heap.size < wr.heap.size:=hf.2.1.lt
  cases h0:s'.sees 0 af5 with
  | true =>
   have T0:=ke (aa3 W0 wr c s' af5 hf.1.2 h0)
   obtain ⟨q,hq⟩:∃ q,run m (.used 7 10 E0 [x]) s'.skip=q:=⟨_,rfl⟩
   have hR:run (m+1) (.loopF x) s'=run m (.loopF (hdE q.1)) q.2:=by simp only [run,h0,hq];simp
   rw [hR] at hrun
   have h1:=ace h0
   have h2:=aaf s'
   have h3:q.2.len≤s'.skip.len:=by have:=abm m (.used 7 10 E0 [x]) s'.skip;rw [hq] at this;exact this
   have hE:aaj m (.used 7 10 E0 [x]) s'.skip:=by simp only [aaj,Md.rank] at hen ⊢;omega
   have hen2:aaj m (.loopF (hdE q.1)) q.2:=by simp only [aaj,Md.rank] at hen ⊢;omega
   have HRUN:=ke hrun
   have HEN2:=ke hen2
   have HU:Hid (∀ w',FolAt W0 w c w2.heap.size s'.skip x k n' tx nm ty A cap l w'→Calls Tryz.prog 176 #[.pointer (some ⟨c,0,none⟩),.agg #[.int .i64 0,.int .i32 0,.string ⟨#[]⟩,.string ⟨#[]⟩,.string ⟨#[]⟩,.slice (some ⟨w'.heap.size,0,none⟩) 1 1,.string ⟨#[]⟩,.int .i64 0],.int .i64 7,.int .i64 10] (w'.alloc (.cells #[.int .i64 k,.int .i32 n',.string tx,.string nm,.string ty,.slice A l.length cap,.string ⟨#[]⟩,.int .i64 0] 35)) (UsC W0 (w.heap.size+1) (some w2.heap.size) c (w'.alloc (.cells #[.int .i64 k,.int .i32 n',.string tx,.string nm,.string ty,.slice A l.length cap,.string ⟨#[]⟩,.int .i64 0] 35)) q)):=by
    show ∀ w',_
    intro w' h'
    have hbw:Below w'.heap.size w' (w'.alloc (.cells #[.int .i64 k,.int .i32 n',.string tx,.string nm,.string ty,.slice A l.length cap,.string ⟨#[]⟩,.int .i64 0] 35)):=(Below.refl _ _).alloc (Nat.le_refl _) _
    have h'':=h'.below hbw
    have hll:w2.heap.size < w'.heap.size:=h'.2.1.lt
    have hss:=hbw.size
    have:=HIH.out m (by omega) W0 _ (w.heap.size+1) (some w2.heap.size) c s'.skip 7 10 E0 _ [x] _ hv h''.1.2 hE h'.one (acp (by obtain ⟨_,_,_,_,_,_,_,_,_,_,_,hb⟩:=h'.2.2.2.1;exact hb)) (by omega) (by omega) ⟨_,rfl⟩ (Nat.le_refl _) (Nat.zero_le _) (by
     intro g hg
     injection hg with hg
     subst hg
     exact ⟨by omega,by simp [Value.ownBlock];omega⟩)
    rw [hq] at this
    exact this
   clear hR hrun hen hE hen2 hq hf h0
   go_wp2_with fail
   refine T0.out.mono ?_
   clear T0
   rintro e w3 ⟨rfl,hm⟩
   have HF2:=ke (HF1.out.move hm)
   obtain ⟨a0,a1,a2,a3,a4,a5,a6,a7⟩:=HF2.out.2.1.all_8
   clear hm
   go_wp2_with fail
   refine (HU.out _ HF2.out).mono ?_
   clear HU a0 a1 a2 a3 a4 a5 a6 a7
   rintro e w5 ⟨y,rfl,hk,hm⟩
   have HF3:=ke ((HF2.out.below ((Below.refl _ _).alloc (Nat.le_refl _) _)).move hm)
   have HK:=ke hk
   obtain ⟨k3,m3,tx3,nm3,ty3,A3,cap3,l3,rfl,_,_,_⟩:=hk
   have HF4:=ke (HF3.out.put HK.out)
   obtain ⟨r0,r1,r2,r3,r4,r5,r6,r7⟩:=HF3.out.2.1.all_8
   have g0:=HF3.out.2.1.fro 0;have g1:=HF3.out.2.1.fro 1;have g2:=HF3.out.2.1.fro 2;have g3:=HF3.out.2.1.fro 3;have g4:=HF3.out.2.1.fro 4;have g5:=HF3.out.2.1.fro 5;have g6:=HF3.out.2.1.fro 6;have g7:=HF3.out.2.1.fro 7
   clear hm
   simp only [aab]
   go_wp2_with fail
   go_roundw
   case rel=>exact ⟨m,_,_,_,_,_,_,_,_,_,_,by omega,HRUN.out,HEN2.out,HF4.out⟩
   case measure=>rw [hla,abe HF4.out.1.2];omega
  | false =>
   cases h1:s'.sees 0 sAs with
   | true =>
    have T0:=ke (aaa W0 wr c s' af5 hf.1.2 h0)
    have T1:=ke (aa3 W0 wr c s' sAs hf.1.2 h1)
    have hR:run (m+1) (.loopF x) s'=run m (.loopF (mkE 15 0 E0 E0 s'.skip.classV [x])) s'.skip.class:=by simp only [run,h0,h1];simp
    rw [hR] at hrun
    have h7:=ace h1
    have h8:=aaf s'
    have h9:=aaz s'.skip
    have hcl:=ab7 s'.skip
    have hen2:aaj m (.loopF (mkE 15 0 E0 E0 s'.skip.classV [x])) s'.skip.class:=by simp only [aaj,Md.rank] at hen ⊢;omega
    obtain ⟨cl,hcle⟩:∃ cl,s'.skip.classV=cl:=⟨_,rfl⟩
    have HC:Hid (∀ w',FolAt W0 w c w2.heap.size s'.skip x k n' tx nm ty A cap l w'→Calls Tryz.prog 72 #[.pointer (some ⟨c,0,none⟩)] w' fun e w''=>e=.returned (.string cl)∧Mv W0 c s'.skip.class w' w''∧FolAt W0 w c w2.heap.size s'.skip.class x k n' tx nm ty A cap l w''):=by
     show ∀ w',_
     intro w' h'
     refine (acv W0 w' c _ h'.1.2).mono ?_
     rintro e w'' ⟨rfl,hm⟩
     exact ⟨by rw [hcle],hm,h'.move hm⟩
    rw [hcle] at hcl hrun hen2
    have HRUN:=ke hrun
    have HEN2:=ke hen2
    clear hR hrun hen hen2 hf hcle h0 h1
    go_wp2_with fail
    refine T0.out.mono ?_
    clear T0
    rintro e w0 ⟨rfl,rfl⟩
    go_wp2_with fail
    refine T1.out.mono ?_
    clear T1
    rintro e w3 ⟨rfl,hm⟩
    have HF2:=ke (HF1.out.move hm)
    have HFD:Hid (FolAt W0 w c w2.heap.size s'.skip x k n' tx nm ty A cap l w3.drew):=ke (HF2.out.below (Below.refl _ _).drew)
    have HFA:=ke (HFD.out.below ((Below.refl _ _).alloc (Nat.le_refl _) (.cells #[.int .i64 k,.int .i32 n',.string tx,.string nm,.string ty,.slice A l.length cap,.string ⟨#[]⟩,.int .i64 0] 35)))
    have HOA:=ke HFD.out.one
    obtain ⟨a0,a1,a2,a3,a4,a5,a6,a7⟩:=HF2.out.2.1.all_8
    have hlt3:w2.heap.size < w3.drew.heap.size:=HFD.out.2.1.lt
    clear hm
    go_wp2_with fail
    go_region_with (go_at_call 72;refine (HC.out _ (by first|exact HFD.out|exact HFA.out)).mono ?_;rintro e w4 ⟨rfl,hm,hf4⟩;have HMC:=ke hm;have HF4:=ke hf4;obtain ⟨W5,hW5⟩:∃ W5,w4.alloc (.cells #[.int .i64 k,.int .i32 n',.string tx,.string nm,.string ty,.slice A l.length cap,.string ⟨#[]⟩,.int .i64 0] 35)=W5:=⟨_,rfl⟩;have hb5:Below w4.heap.size w4 W5:=by { rw [← hW5];exact (Below.refl _ _).alloc (Nat.le_refl _) _ };have HF5:=ke (hf4.below hb5);have HO5:=ke hf4.one;rw [hW5] at HO5;obtain ⟨b0,b1,b3,b4,b5,b6,b7,b8⟩:=hf4.2.1.all_8;obtain ⟨r0,r1,r2,r3,r4,r5,r6,r7⟩:=HF5.out.2.1.all_8;have d0:=hf4.2.1.fro 0;have d1:=hf4.2.1.fro 1;have d2:=hf4.2.1.fro 2;have d3:=hf4.2.1.fro 3;have d4:=hf4.2.1.fro 4;have d5:=hf4.2.1.fro 5;have d6:=hf4.2.1.fro 6;have d7:=hf4.2.1.fro 7;have g0:=HF5.out.2.1.fro 0;have g1:=HF5.out.2.1.fro 1;have g2:=HF5.out.2.1.fro 2;have g3:=HF5.out.2.1.fro 3;have g4:=HF5.out.2.1.fro 4;have g5:=HF5.out.2.1.fro 5;have g6:=HF5.out.2.1.fro 6;have g7:=HF5.out.2.1.fro 7;have hlt4:=hf4.2.1.lt;clear hm hf4 hb5)
    all_goals
     have HK6:Hid (aaq (mkE 15 0 E0 E0 cl [x])=.ex 15 0 ⟨#[]⟩ ⟨#[]⟩ cl (.slice none 0 0) (aai [Nd.ex k n' tx nm ty (.slice A l.length cap) l ⟨#[]⟩ 0]) ⟨#[]⟩ 0):=ke (ab4 (acp HF2.out.2.2.2.1.bare) _ _ _ _ _)
     have hnA:∀ g,some w2.heap.size=some g→(Value.slice (some ⟨w3.drew.heap.size,0,none⟩) 1 1).ownBlock≠some g:=by intro g hg;injection hg with hg;subst hg;simp only [Value.ownBlock,ne_eq,Option.some.injEq];omega
     have hn4:∀ g,some w2.heap.size=some g→(Value.slice (some ⟨w4.heap.size,0,none⟩) 1 1).ownBlock≠some g:=by intro g hg;injection hg with hg;subst hg;simp only [Value.ownBlock,ne_eq,Option.some.injEq];omega
     have hcc:c < w.heap.size+1:=by omega
     have hszz:(⟨#[]⟩:ByteArray).size≤maxLen∧(⟨#[]⟩:ByteArray).size≤maxLen∧cl.size≤maxLen:=⟨Nat.zero_le _,Nat.zero_le _,hcl⟩
     have hmn':m≤n:=by omega
     clear a0 a1 a2 a3 a4 a5 a6 a7
     go_wp2_with fail
     first
      | (have hk6:=(HOA.out.grown HMC.out.1 hcc).node hnA 15 0 ⟨#[]⟩ ⟨#[]⟩ cl hszz HK6.out
         have HF6:=ke (HF4.out.put (l:=[_]) hk6)
         go_roundw
         case rel=>exact ⟨m,_,_,_,_,_,_,_,_,_,_,hmn',HRUN.out,HEN2.out,HF6.out⟩
         case measure=>(refine Nat.lt_of_le_of_lt (Nat.le_of_eq (abe HF6.out.1.2)) ?_;rw [hla];omega))
      | (have hk6:=HO5.out.node hn4 15 0 ⟨#[]⟩ ⟨#[]⟩ cl hszz HK6.out
         have HF6:=ke (HF5.out.put (l:=[_]) hk6)
         go_roundw
         case rel=>exact ⟨m,_,_,_,_,_,_,_,_,_,_,hmn',HRUN.out,HEN2.out,HF6.out⟩
         case measure=>(refine Nat.lt_of_le_of_lt (Nat.le_of_eq (abe HF6.out.1.2)) ?_;rw [hla];omega))
   | false =>
    cases h2:s'.sees 0 sIs with
    | true =>
     have T0:=ke (aaa W0 wr c s' af5 hf.1.2 h0)
     have T1:=ke (aaa W0 wr c s' sAs hf.1.2 h1)
     have T2:=ke (aa3 W0 wr c s' sIs hf.1.2 h2)
     have hR:run (m+1) (.loopF x) s'=run m (.loopF (mkE 16 0 E0 E0 s'.skip.classV [x])) s'.skip.class:=by simp only [run,h0,h1,h2];simp
     rw [hR] at hrun
     have h7:=ace h2
     have h8:=aaf s'
     have h9:=aaz s'.skip
     have hcl:=ab7 s'.skip
     have hen2:aaj m (.loopF (mkE 16 0 E0 E0 s'.skip.classV [x])) s'.skip.class:=by simp only [aaj,Md.rank] at hen ⊢;omega
     obtain ⟨cl,hcle⟩:∃ cl,s'.skip.classV=cl:=⟨_,rfl⟩
     have HC:Hid (∀ w',FolAt W0 w c w2.heap.size s'.skip x k n' tx nm ty A cap l w'→Calls Tryz.prog 72 #[.pointer (some ⟨c,0,none⟩)] w' fun e w''=>e=.returned (.string cl)∧Mv W0 c s'.skip.class w' w''∧FolAt W0 w c w2.heap.size s'.skip.class x k n' tx nm ty A cap l w''):=by
      show ∀ w',_
      intro w' h'
      refine (acv W0 w' c _ h'.1.2).mono ?_
      rintro e w'' ⟨rfl,hm⟩
      exact ⟨by rw [hcle],hm,h'.move hm⟩
     rw [hcle] at hcl hrun hen2
     have HRUN:=ke hrun
     have HEN2:=ke hen2
     clear hR hrun hen hen2 hf hcle h0 h1 h2
     go_wp2_with fail
     refine T0.out.mono ?_
     clear T0
     rintro e w0 ⟨rfl,rfl⟩
     go_wp2_with fail
     refine T1.out.mono ?_
     clear T1
     rintro e w0 ⟨rfl,rfl⟩
     go_wp2_with fail
     refine T2.out.mono ?_
     clear T2
     rintro e w3 ⟨rfl,hm⟩
     have HF2:=ke (HF1.out.move hm)
     have HFD:Hid (FolAt W0 w c w2.heap.size s'.skip x k n' tx nm ty A cap l w3.drew):=ke (HF2.out.below (Below.refl _ _).drew)
     have HFA:=ke (HFD.out.below ((Below.refl _ _).alloc (Nat.le_refl _) (.cells #[.int .i64 k,.int .i32 n',.string tx,.string nm,.string ty,.slice A l.length cap,.string ⟨#[]⟩,.int .i64 0] 35)))
     have HOA:=ke HFD.out.one
     obtain ⟨a0,a1,a2,a3,a4,a5,a6,a7⟩:=HF2.out.2.1.all_8
     have hlt3:w2.heap.size < w3.drew.heap.size:=HFD.out.2.1.lt
     clear hm
     go_wp2_with fail
     go_region_with (go_at_call 72;refine (HC.out _ (by first|exact HFD.out|exact HFA.out)).mono ?_;rintro e w4 ⟨rfl,hm,hf4⟩;have HMC:=ke hm;have HF4:=ke hf4;obtain ⟨W5,hW5⟩:∃ W5,w4.alloc (.cells #[.int .i64 k,.int .i32 n',.string tx,.string nm,.string ty,.slice A l.length cap,.string ⟨#[]⟩,.int .i64 0] 35)=W5:=⟨_,rfl⟩;have hb5:Below w4.heap.size w4 W5:=by { rw [← hW5];exact (Below.refl _ _).alloc (Nat.le_refl _) _ };have HF5:=ke (hf4.below hb5);have HO5:=ke hf4.one;rw [hW5] at HO5;obtain ⟨b0,b1,b3,b4,b5,b6,b7,b8⟩:=hf4.2.1.all_8;obtain ⟨r0,r1,r2,r3,r4,r5,r6,r7⟩:=HF5.out.2.1.all_8;have d0:=hf4.2.1.fro 0;have d1:=hf4.2.1.fro 1;have d2:=hf4.2.1.fro 2;have d3:=hf4.2.1.fro 3;have d4:=hf4.2.1.fro 4;have d5:=hf4.2.1.fro 5;have d6:=hf4.2.1.fro 6;have d7:=hf4.2.1.fro 7;have g0:=HF5.out.2.1.fro 0;have g1:=HF5.out.2.1.fro 1;have g2:=HF5.out.2.1.fro 2;have g3:=HF5.out.2.1.fro 3;have g4:=HF5.out.2.1.fro 4;have g5:=HF5.out.2.1.fro 5;have g6:=HF5.out.2.1.fro 6;have g7:=HF5.out.2.1.fro 7;have hlt4:=hf4.2.1.lt;clear hm hf4 hb5)
     all_goals
      have HK6:Hid (aaq (mkE 16 0 E0 E0 cl [x])=.ex 16 0 ⟨#[]⟩ ⟨#[]⟩ cl (.slice none 0 0) (aai [Nd.ex k n' tx nm ty (.slice A l.length cap) l ⟨#[]⟩ 0]) ⟨#[]⟩ 0):=ke (ab4 (acp HF2.out.2.2.2.1.bare) _ _ _ _ _)
      have hnA:∀ g,some w2.heap.size=some g→(Value.slice (some ⟨w3.drew.heap.size,0,none⟩) 1 1).ownBlock≠some g:=by intro g hg;injection hg with hg;subst hg;simp only [Value.ownBlock,ne_eq,Option.some.injEq];omega
      have hn4:∀ g,some w2.heap.size=some g→(Value.slice (some ⟨w4.heap.size,0,none⟩) 1 1).ownBlock≠some g:=by intro g hg;injection hg with hg;subst hg;simp only [Value.ownBlock,ne_eq,Option.some.injEq];omega
      have hcc:c < w.heap.size+1:=by omega
      have hszz:(⟨#[]⟩:ByteArray).size≤maxLen∧(⟨#[]⟩:ByteArray).size≤maxLen∧cl.size≤maxLen:=⟨Nat.zero_le _,Nat.zero_le _,hcl⟩
      have hmn':m≤n:=by omega
      clear a0 a1 a2 a3 a4 a5 a6 a7
      go_wp2_with fail
      first
       | (have hk6:=(HOA.out.grown HMC.out.1 hcc).node hnA 16 0 ⟨#[]⟩ ⟨#[]⟩ cl hszz HK6.out
          have HF6:=ke (HF4.out.put (l:=[_]) hk6)
          go_roundw
          case rel=>exact ⟨m,_,_,_,_,_,_,_,_,_,_,hmn',HRUN.out,HEN2.out,HF6.out⟩
          case measure=>(refine Nat.lt_of_le_of_lt (Nat.le_of_eq (abe HF6.out.1.2)) ?_;rw [hla];omega))
       | (have hk6:=HO5.out.node hn4 16 0 ⟨#[]⟩ ⟨#[]⟩ cl hszz HK6.out
          have HF6:=ke (HF5.out.put (l:=[_]) hk6)
          go_roundw
          case rel=>exact ⟨m,_,_,_,_,_,_,_,_,_,_,hmn',HRUN.out,HEN2.out,HF6.out⟩
          case measure=>(refine Nat.lt_of_le_of_lt (Nat.le_of_eq (abe HF6.out.1.2)) ?_;rw [hla];omega))
    | false =>
     have T0:=ke (aaa W0 wr c s' af5 hf.1.2 h0)
     have T1:=ke (aaa W0 wr c s' sAs hf.1.2 h1)
     have T2:=ke (aaa W0 wr c s' sIs hf.1.2 h2)
     have hR:run (m+1) (.loopF x) s'=([x],s'):=by simp only [run,h0,h1,h2];simp
     rw [hR] at hrun
     subst hrun
     have HF3:=HF1
     clear hR hen hf h0 h1 h2
     go_wp2_with fail
     refine T0.out.mono ?_
     clear T0
     rintro e w0 ⟨rfl,rfl⟩
     go_wp2_with fail
     refine T1.out.mono ?_
     clear T1
     rintro e w0 ⟨rfl,rfl⟩
     go_wp2_with fail
     refine T2.out.mono ?_
     clear T2
     rintro e w0 ⟨rfl,rfl⟩
     have hx2:=HF3.out.2.2.1
     obtain ⟨r0,r1,r2,r3,r4,r5,r6,r7⟩:=hx2.all_8
     have g0:=hx2.fro 0;have g1:=hx2.fro 1;have g2:=hx2.fro 2;have g3:=hx2.fro 3;have g4:=hx2.fro 4;have g5:=hx2.fro 5;have g6:=hx2.fro 6;have g7:=hx2.fro 7
     obtain ⟨a0,a1,a2,a3,a4,a5,a6,a7⟩:=HF3.out.2.1.all_8
     have HG:=ke (aaw wr w.heap.size (.int .i64 k) (.int .i32 n') (.string tx) (.string nm) (.string ty) (.slice A l.length cap) (.string ⟨#[]⟩) (.int .i64 0))
     clear hx2
     go_wp2_with fail
     obtain ⟨z0,z1,z2,z3,z4,z5,z6,z7⟩:=(HF3.out.2.2.1.to_8 (.int .i64 k) (.int .i32 n') (.string tx) (.string nm) (.string ty) (.slice A l.length cap) (.string ⟨#[]⟩) (.int .i64 0)).all_8
     (try simp only [Exit.inBlock,Exit.then])
     refine bodyPost_ret (v:=.agg #[.int .i64 k,.int .i32 n',.string tx,.string nm,.string ty,.slice A l.length cap,.string ⟨#[]⟩,.int .i64 0]) (by simp [results,Tryz.results143,go_sem,z0,z1,z2,z3,z4,z5,z6,z7]) rfl ?_
     exact ⟨_,rfl,(HF3.out.2.2.2.1.free.grown HG.out (.inl (by omega))).mono (by omega),Mv.over (Below.refl _ _) HF3.out.1 HG.out (Nat.le_refl _) hlt⟩
end
section
open Go.RowKit
def capQ (n:Nat):Nat:=min n 1099511627776
theorem capQ_small {M n:Nat} (hM:M < 1099511627776) (h:n≤M):capQ n=n:=by unfold capQ;omega
theorem capQ_big {M n:Nat} (hM:M < 1099511627776) (h:M < n):M < capQ n:=by unfold capQ;omega
def numQ (a:Nat) (l:List UInt8):Nat:=l.foldl (fun a c=>capQ (a * 10+(c.toNat - 48))) a
theorem numQ_nil (a:Nat):numQ a []=a:=rfl
theorem numQ_cons (a:Nat) (c:UInt8) (r:List UInt8):numQ a (c :: r)=numQ (capQ (a * 10+(c.toNat - 48))) r:=by simp only [numQ,List.foldl_cons]
def digL (l:List UInt8):Prop:=∀ c ∈ l,48≤c.toNat∧c.toNat≤57
theorem numQ_big {M:Nat} (hM:M < 1099511627776) (l:List UInt8):∀ a:Nat,M < a→M < numQ a l:=by
 induction l with
 | nil=>intro a h;rw [numQ_nil];exact h
 | cons c r ih =>
  intro a h
  rw [numQ_cons]
  exact ih _ (capQ_big hM (by omega))
theorem numQ_uint {M:Nat} (hM:M < 1099511627776) (l:List UInt8):∀ a:Nat,a≤M→digL l→(∃ u,Lib.parseUintM M a l=.ok u∧numQ a l=u∧u≤M)∨(Lib.parseUintM M a l=.range∧M < numQ a l):=by
 induction l with
 | nil=>intro a h _;exact .inl ⟨a,rfl,rfl,h⟩
 | cons c r ih =>
  intro a h hd
  have hc:=hd c List.mem_cons_self
  rw [Lib.parseUintM,if_pos hc,numQ_cons]
  by_cases h1:1844674407370955162≤a
  ·omega
  ·rw [if_neg h1]
   by_cases h2:M < a * 10+(c.toNat - 48)
   ·rw [if_pos h2]
    exact .inr ⟨rfl,numQ_big hM r _ (capQ_big hM h2)⟩
   ·rw [if_neg h2]
    rw [capQ_small hM (by omega)]
    exact ih _ (by omega) (fun x hx=>hd x (List.mem_cons_of_mem _ hx))
theorem numO_q (t:ByteArray) (hd:digL t.data.toList) (h0:t.data.toList≠[]):(numQ 0 t.data.toList < 2147483648∧numO t=some (numQ 0 t.data.toList:Int))∨(2147483648≤numQ 0 t.data.toList∧numO t=none):=by
 have hu:=numQ_uint (M:=2 ^ 32 - 1) (by decide) t.data.toList 0 (Nat.zero_le _) hd
 cases hl:t.data.toList with
 | nil=>exact absurd hl h0
 | cons c r =>
  rw [hl] at hu hd
  have hc:=hd c List.mem_cons_self
  have e1:¬ (c.toNat=43∨c.toNat=45):=by omega
  have e2:¬ c.toNat=45:=by omega
  unfold numO
  rw [hl]
  simp only [Lib.parseIntB,if_neg e1,Lib.parseUintB]
  rw [if_neg (by simp)]
  rcases hu with ⟨u,h1,h2,h3⟩|⟨h1,h2⟩
  ·rw [h1,h2]
   simp only
   by_cases h4:2147483648≤u
   ·right
    refine ⟨h4,?_⟩
    rw [if_pos ⟨e2,by simpa using h4⟩]
   ·left
    refine ⟨by omega,?_⟩
    rw [if_neg (by rintro ⟨_,h5⟩;exact h4 (by simpa using h5)),if_neg (by rintro ⟨h5,_⟩;exact e2 h5),if_neg e2]
  ·right
   refine ⟨by omega,?_⟩
   rw [h1]
def aer (l:List UInt8):Bool:=match l with|[]=>false|c :: _=>adm (c.toNat:Int) && !kept l
def bigQ (l:List UInt8):Bool:=match l with|[]=>false|c :: _=>big (c.toNat:Int) && !(l == stringWord)
def alL (l:List UInt8):Bool:=l.all fun b=>aa1 (b.toNat:Int)
theorem pre_list (t:ByteArray):(t.extract 0 (min t.size 20)).data.toList=t.data.toList.take 20:=by
 rw [ByteArray.data_extract,Array.toList_extract]
 simp only [List.extract,Nat.sub_zero,List.drop_zero]
 rw [List.take_eq_take_iff]
 have:t.data.toList.length=t.size:=by simp
 omega
theorem shape_list (f:Int→Bool) (t:ByteArray):afn f t=match t.data.toList with|[]=>false|c :: r=>decide ((c :: r).length≤20) && (f (c.toNat:Int) && alL (c :: r)):=by
 have hs:t.data.toList.length=t.size:=by simp
 unfold afn
 cases hl:t.data.toList with
 | nil =>
  rw [hl] at hs
  have:¬ 1≤t.size:=by rw [← hs];simp
  simp [this]
 | cons c r =>
  have h0:0 < t.size:=by rw [← hs,hl];simp
  obtain ⟨b,hb,hn,_⟩:=ad1 t 0 h0
  rw [List.drop_zero,hl] at hb
  injection hb with h1 h2
  subst h1
  have h1:1≤t.size:=h0
  rw [← hn,← hs,hl]
  simp only [ae0,List.drop_zero,hl,alL]
  simp
theorem kept_short:∀ l:List UInt8,kept l=true→l.length < 20:=by
 intro l h
 have:∀ x ∈ keptWords,x.length < 20:=by decide
 exact this l (List.contains_iff_mem.1 h)
theorem alL_take (l:List UInt8) (k:Nat) (h:alL l=true):alL (l.take k)=true:=by
 unfold alL at *
 rw [List.all_eq_true] at *
 exact fun x hx=>h x (List.mem_of_mem_take hx)
theorem nameOk_pre (t:ByteArray) (h:alL t.data.toList=true):acg (t.extract 0 (min t.size 20))=aer t.data.toList:=by
 unfold acg
 rw [shape_list,pre_list]
 cases hl:t.data.toList with
 | nil=>rfl
 | cons c r =>
  rw [hl] at h
  have ht:=alL_take _ 20 h
  have e:(c :: r).take 20=c :: r.take 19:=rfl
  rw [e] at ht ⊢
  have hlen:(c :: r.take 19).length≤20:=by simp;omega
  simp only [ht,decide_eq_true hlen,Bool.true_and,Bool.and_true,aer]
  congr 1
  by_cases hc:(c :: r).length≤20
  ·have:c :: r.take 19=c :: r:=by rw [← e];exact List.take_of_length_le hc
   rw [this]
  ·have k1:kept (c :: r)=false:=by
    cases hk:kept (c :: r) with
    | false=>rfl
    | true=>have:=kept_short _ hk;omega
   have k2:kept (c :: r.take 19)=false:=by
    cases hk:kept (c :: r.take 19) with
    | false=>rfl
    | true=>have:=kept_short _ hk;simp at this hc;omega
   rw [k1,k2]
theorem classOk_pre (t:ByteArray) (h:alL t.data.toList=true):ab8 (t.extract 0 (min t.size 20))=bigQ t.data.toList:=by
 unfold ab8
 rw [shape_list,pre_list]
 cases hl:t.data.toList with
 | nil=>rfl
 | cons c r =>
  rw [hl] at h
  have ht:=alL_take _ 20 h
  have e:(c :: r).take 20=c :: r.take 19:=rfl
  rw [e] at ht ⊢
  have hlen:(c :: r.take 19).length≤20:=by simp;omega
  simp only [ht,decide_eq_true hlen,Bool.true_and,Bool.and_true,bigQ]
  congr 2
  have hsw:stringWord.length=6:=rfl
  by_cases hc:(c :: r).length≤20
  ·have:c :: r.take 19=c :: r:=by rw [← e];exact List.take_of_length_le hc
   rw [this]
  ·rw [Bool.eq_iff_iff,beq_iff_eq,beq_iff_eq]
   constructor
   ·intro h1;rw [← h1] at hsw;simp at hsw hc;omega
   ·intro h1;rw [← h1] at hsw;simp at hsw hc;omega
end
section
open Go.RowKit
theorem ahj {s:RS} {t:ByteArray} (h:fxP s.ws[0]?=some t):1≤s.len:=by
 unfold RS.len
 cases hw:s.ws with
 | nil=>rw [hw] at h;simp [fxP] at h
 | cons x l=>simp
theorem aa5 {s:RS} {p:ByteArray} (h:s.sees 0 p=true):1≤s.len:=by
 unfold RS.len
 cases hw:s.ws with
 | nil=>simp [RS.sees,aik,hw] at h
 | cons x l=>simp
theorem signOf_len {s:RS} {t:ByteArray} (h:acz s=some t):1≤s.len:=by
 unfold acz at h
 split at h
 ·rename_i h1;exact aa5 h1
 ·split at h
  ·rename_i h1;exact aa5 h1
  ·split at h
   ·rename_i h1;exact aa5 h1
   ·cases h
theorem run_same:∀ (n:Nat) (m:Md) (s:RS) (n':Nat),aaj n m s→aaj n' m s→run n m s=run n' m s:=by
 intro n
 induction n with
 | zero=>intro m s n' h;exfalso;unfold aaj at h;cases m<;>simp [Md.rank] at h
 | succ n ih =>
  intro m s n' h h'
  cases n' with
  | zero=>exfalso;unfold aaj at h';cases m<;>simp [Md.rank] at h'
  | succ n' =>
   have key:∀ (m2:Md) (s2:RS),14 * s2.len+m2.rank≤n→14 * s2.len+m2.rank≤n'→run n m2 s2=run n' m2 s2:=fun m2 s2 a b=>ih m2 s2 n' a b
   unfold aaj at h h'
   cases m with
   | expr =>
    simp only [Md.rank] at h h'
    simp only [run]
    exact key _ _ (by simp only [Md.rank];omega) (by simp only [Md.rank];omega)
   | joined k =>
    simp only [Md.rank] at h h'
    simp only [run]
    have h1:=abm n' .signed s
    rw [key .signed s (by simp only [Md.rank];omega) (by simp only [Md.rank];omega)]
    exact key _ _ (by simp only [Md.rank];omega) (by simp only [Md.rank];omega)
   | loopJ k e =>
    simp only [Md.rank] at h h'
    simp only [run]
    split
    ·rename_i t ht
     have h0:=ahj ht
     have h1:=aaf s
     split
     ·have h2:=abm n' (.joined (aat t+1)) s.skip
      rw [key (.joined (aat t+1)) s.skip (by simp only [Md.rank];omega) (by simp only [Md.rank];omega)]
      exact key _ _ (by simp only [Md.rank];omega) (by simp only [Md.rank];omega)
     ·rfl
    ·rfl
   | signed =>
    simp only [Md.rank] at h h'
    simp only [run]
    split
    ·rename_i t ht
     have h0:=signOf_len ht
     have h1:=aa4 s t
     rw [key .signed (s.enter t) (by simp only [Md.rank];omega) (by simp only [Md.rank];omega)]
    ·exact key _ _ (by simp only [Md.rank];omega) (by simp only [Md.rank];omega)
   | followed =>
    simp only [Md.rank] at h h'
    simp only [run]
    have h1:=abm n' .atom s
    rw [key .atom s (by simp only [Md.rank];omega) (by simp only [Md.rank];omega)]
    exact key _ _ (by simp only [Md.rank];omega) (by simp only [Md.rank];omega)
   | loopF e =>
    simp only [Md.rank] at h h'
    simp only [run]
    have h1:=aaf s
    have h2:=aaz s.skip
    split
    ·rename_i hs
     have h0:=aa5 hs
     have h3:=abm n' (.used 7 10 E0 [e]) s.skip
     rw [key (.used 7 10 E0 [e]) s.skip (by simp only [Md.rank];omega) (by simp only [Md.rank];omega)]
     exact key _ _ (by simp only [Md.rank];omega) (by simp only [Md.rank];omega)
    ·split
     ·rename_i hs
      have h0:=aa5 hs
      exact key _ _ (by simp only [Md.rank];omega) (by simp only [Md.rank];omega)
     ·split
      ·rename_i hs
       have h0:=aa5 hs
       exact key _ _ (by simp only [Md.rank];omega) (by simp only [Md.rank];omega)
      ·rfl
   | used p c ty l =>
    simp only [Md.rank] at h h'
    simp only [run]
    split
    ·rename_i hs
     have h0:=aa5 hs
     have h1:=abg s
     rw [key .args s.name (by simp only [Md.rank];omega) (by simp only [Md.rank];omega)]
    ·rfl
   | args =>
    simp only [Md.rank] at h h'
    simp only [run]
    have h1:=aa4 s aah
    rw [key .listed (s.enter aah) (by simp only [Md.rank];omega) (by simp only [Md.rank];omega)]
   | listed =>
    simp only [Md.rank] at h h'
    simp only [run]
    split
    ·rfl
    ·have h1:=abm n' .expr s
     rw [key .expr s (by simp only [Md.rank];omega) (by simp only [Md.rank];omega)]
     exact key _ _ (by simp only [Md.rank];omega) (by simp only [Md.rank];omega)
   | more l =>
    simp only [Md.rank] at h h'
    simp only [run]
    split
    ·rename_i hs
     have h0:=aa5 hs
     have h1:=aaf s
     have h2:=abm n' .expr s.skip
     rw [key .expr s.skip (by simp only [Md.rank];omega) (by simp only [Md.rank];omega)]
     exact key _ _ (by simp only [Md.rank];omega) (by simp only [Md.rank];omega)
    ·rfl
   | atom =>
    simp only [Md.rank] at h h'
    simp only [run]
    have h2:=aaz s
    have h3:=aan s.class ado
    split
    ·rfl
    ·rfl
    ·exact key _ _ (by simp only [Md.rank];omega) (by simp only [Md.rank];omega)
    ·exact key _ _ (by simp only [Md.rank];omega) (by simp only [Md.rank];omega)
    ·exact key _ _ (by simp only [Md.rank];omega) (by simp only [Md.rank];omega)
   | fixed =>
    simp only [Md.rank] at h h'
    simp only [run]
    have h1:=aaf s
    have h2:=aaz s.skip
    have h3:=aan s.skip af5
    have h4:=aa4 s aah
    split
    ·rfl
    ·split
     ·rfl
     ·split
      ·rfl
      ·split
       ·rfl
       ·split
        ·rename_i hs
         have h0:=aa5 hs
         exact key _ _ (by simp only [Md.rank];omega) (by simp only [Md.rank];omega)
        ·split
         ·rename_i hs
          have h0:=aa5 hs
          rw [key .args s.skip.class (by simp only [Md.rank];omega) (by simp only [Md.rank];omega)]
         ·split
          ·rename_i hs
           have h0:=aa5 hs
           rw [key .expr (s.enter aah) (by simp only [Md.rank];omega) (by simp only [Md.rank];omega)]
          ·rfl
end
section
open Go.RowKit
def RX (m:Md) (s:RS):List Nd×RS:=run (14 * s.len+m.rank) m s
theorem rank_le (m:Md):m.rank≤12:=by cases m<;>simp [Md.rank]
theorem RX_run {n:Nat} {m:Md} {s:RS} (h:aaj n m s):run n m s=RX m s:=run_same _ _ _ _ h (Nat.le_refl _)
theorem ae4 (m:Md) (s:RS):∃ N:Nat,(∀ (m2:Md) (s2:RS),s2.len≤s.len→run N m2 s2=RX m2 s2)∧RX m s=run (N+1) m s :=
 ⟨14 * s.len+20,fun m2 s2 h=>RX_run (by have:=rank_le m2;unfold aaj;omega),(RX_run (by have:=rank_le m;unfold aaj;omega)).symm⟩
theorem ae2 (m:Md) (s:RS):(RX m s).2.len≤s.len:=abm _ _ _
theorem ag3 (s:RS):ex s=RX .expr s:=rfl
theorem RX_expr (s:RS):RX .expr s=RX (.joined 1) s:=by
 obtain ⟨N,RX_of,hN⟩:=ae4 .expr s
 rw [hN];simp only [run];rw [RX_of _ _ (Nat.le_refl _)]
theorem ajg (k:Int) (s:RS):RX (.joined k) s=RX (.loopJ k (hdE (RX .signed s).1)) (RX .signed s).2:=by
 obtain ⟨N,RX_of,hN⟩:=ae4 (.joined k) s
 rw [hN];simp only [run];rw [RX_of _ _ (Nat.le_refl _),RX_of _ _ (ae2 _ _)]
theorem ajf (k:Int) (e:Nd) (s:RS):RX (.loopJ k e) s=match fxP s.ws[0]? with
 | some t=>if k≤aat t then RX (.loopJ k (mkE 17 0 E0 t E0 [e,hdE (RX (.joined (aat t+1)) s.skip).1])) (RX (.joined (aat t+1)) s.skip).2 else ([e],s)
 | none=>([e],s):=by
 have h1:=aaf s
 obtain ⟨N,RX_of,hN⟩:=ae4 (.loopJ k e) s
 rw [hN];simp only [run]
 cases hf:fxP s.ws[0]? with
 | none=>rfl
 | some t =>
  have h2:=ae2 (.joined (aat t+1)) s.skip
  simp only
  rw [RX_of _ _ (show s.skip.len≤s.len by omega),RX_of _ _ (by omega)]
theorem RX_signed (s:RS):RX .signed s=match acz s with
 | some t=>([mkE 18 0 E0 t E0 [hdE (RX .signed (s.enter t)).1]],(RX .signed (s.enter t)).2.dec)
 | none=>RX .followed s:=by
 obtain ⟨N,RX_of,hN⟩:=ae4 .signed s
 rw [hN];simp only [run]
 cases hf:acz s with
 | none=>simp only;rw [RX_of _ _ (Nat.le_refl _)]
 | some t =>
  have h2:=aa4 s t
  simp only
  rw [RX_of _ _ (show (s.enter t).len≤s.len by omega)]
theorem RX_followed (s:RS):RX .followed s=RX (.loopF (hdE (RX .atom s).1)) (RX .atom s).2:=by
 obtain ⟨N,RX_of,hN⟩:=ae4 .followed s
 rw [hN];simp only [run];rw [RX_of _ _ (Nat.le_refl _),RX_of _ _ (ae2 _ _)]
theorem aib (e:Nd) (s:RS):RX (.loopF e) s =
 if s.sees 0 af5=true then RX (.loopF (hdE (RX (.used 7 10 E0 [e]) s.skip).1)) (RX (.used 7 10 E0 [e]) s.skip).2
 else if s.sees 0 sAs=true then RX (.loopF (mkE 15 0 E0 E0 s.skip.classV [e])) s.skip.class
 else if s.sees 0 sIs=true then RX (.loopF (mkE 16 0 E0 E0 s.skip.classV [e])) s.skip.class
 else ([e],s):=by
 have h1:=aaf s
 have h2:=aaz s.skip
 have h3:=ae2 (.used 7 10 E0 [e]) s.skip
 obtain ⟨N,RX_of,hN⟩:=ae4 (.loopF e) s
 rw [hN];simp only [run]
 rw [RX_of _ _ (show s.skip.len≤s.len by omega),RX_of _ _ (show (RX (.used 7 10 E0 [e]) s.skip).2.len≤s.len by omega),RX_of _ _ (show s.skip.class.len≤s.len by omega),RX_of _ _ (show s.skip.class.len≤s.len by omega)]
theorem ahr (p c:Int) (ty:ByteArray) (l:List Nd) (s:RS):RX (.used p c ty l) s =
 if s.name.sees 0 aah=true then ([mkE c 0 E0 s.nameV ty (l ++ (RX .args s.name).1)],(RX .args s.name).2) else ([mkE p 0 E0 s.nameV ty l],s.name):=by
 have h1:=abg s
 obtain ⟨N,RX_of,hN⟩:=ae4 (.used p c ty l) s
 rw [hN];simp only [run]
 rw [RX_of _ _ (show s.name.len≤s.len by omega)]
theorem RX_args (s:RS):RX .args s=((RX .listed (s.enter aah)).1,(RX .listed (s.enter aah)).2.leave aa6):=by
 have h1:=aa4 s aah
 obtain ⟨N,RX_of,hN⟩:=ae4 .args s
 rw [hN];simp only [run]
 rw [RX_of _ _ (show (s.enter aah).len≤s.len by omega)]
theorem RX_listed (s:RS):RX .listed s=if s.sees 0 aa6=true then ([],s) else RX (.more [hdE (RX .expr s).1]) (RX .expr s).2:=by
 obtain ⟨N,RX_of,hN⟩:=ae4 .listed s
 rw [hN];simp only [run]
 rw [RX_of _ _ (Nat.le_refl _),RX_of _ _ (ae2 _ _)]
theorem RX_more (l:List Nd) (s:RS):RX (.more l) s=if s.sees 0 aei=true then RX (.more (l ++ [hdE (RX .expr s.skip).1])) (RX .expr s.skip).2 else (l,s):=by
 have h1:=aaf s
 have h2:=ae2 .expr s.skip
 obtain ⟨N,RX_of,hN⟩:=ae4 (.more l) s
 rw [hN];simp only [run]
 rw [RX_of _ _ (show s.skip.len≤s.len by omega),RX_of _ _ (by omega)]
theorem RX_atom (s:RS):RX .atom s=match s.ws[0]? with
 | some (Pr.nu _,_)=>([mkE 1 (s.numR 2147483647) E0 E0 E0 []],s.num 2147483647)
 | some (Pr.qu t,_)=>([mkE 3 0 t E0 E0 []],s.skip)
 | some (Pr.nm _,_)=>RX (.used 6 11 E0 []) s
 | some (Pr.cl _,_)=>RX (.used 9 13 s.classV []) (s.class.need ado)
 | _=>RX .fixed s:=by
 have h2:=aaz s
 have h3:=aan s.class ado
 obtain ⟨N,RX_of,hN⟩:=ae4 .atom s
 rw [hN];simp only [run]
 cases hw:s.ws[0]? with
 | none=>simp only;rw [RX_of _ _ (Nat.le_refl _)]
 | some x =>
  obtain ⟨x,a⟩:=x
  cases x with
  | fx t=>simp only;rw [RX_of _ _ (Nat.le_refl _)]
  | nm t=>simp only;rw [RX_of _ _ (Nat.le_refl _)]
  | cl t=>simp only;rw [RX_of _ _ (by omega)]
  | nu t=>rfl
  | qu t=>rfl
theorem RX_fixed (s:RS):RX .fixed s =
 if s.sees 0 acy=true then ([mkE 2 1 E0 E0 E0 []],s.skip) else if s.sees 0 abq=true then ([mkE 2 0 E0 E0 E0 []],s.skip) else if s.sees 0 adv=true then ([mkE 4 0 E0 E0 E0 []],s.skip) else if s.sees 0 aeh=true then ([mkE 5 0 E0 E0 E0 []],s.skip)
 else if s.sees 0 abp=true then RX (.used 8 12 E0 []) (s.skip.need af5)
 else if s.sees 0 sNew=true then ([mkE 14 0 E0 E0 s.skip.classV (RX .args s.skip.class).1],(RX .args s.skip.class).2)
 else if s.sees 0 aah=true then ([hdE (RX .expr (s.enter aah)).1],(RX .expr (s.enter aah)).2.leave aa6)
 else ([noE],s.fail 3):=by
 have h1:=aaf s
 have h2:=aaz s.skip
 have h3:=aan s.skip af5
 have h4:=aa4 s aah
 obtain ⟨N,RX_of,hN⟩:=ae4 .fixed s
 rw [hN];simp only [run]
 rw [RX_of _ _ (show (s.skip.need af5).len≤s.len by omega),RX_of _ _ (show s.skip.class.len≤s.len by omega),RX_of _ _ (show (s.enter aah).len≤s.len by omega)]
/-! ### Levels -/
theorem tq_le (t:ByteArray):aat t≤6:=by
 unfold aat tightL
 repeat' split
 all_goals omega
def below (k:Int) (s:RS):Prop:=∀ t,fxP s.ws[0]?=some t→aat t < k
theorem loopJ_below:∀ (n:Nat) (k:Int) (e:Nd) (s:RS),s.len≤n→below k (RX (.loopJ k e) s).2:=by
 intro n
 induction n with
 | zero =>
  intro k e s hn t ht
  rw [ajf] at ht
  cases hf:fxP s.ws[0]? with
  | none=>rw [hf] at ht;simp only at ht;rw [hf] at ht;cases ht
  | some u=>have:=ahj hf;omega
 | succ n ih =>
  intro k e s hn
  rw [ajf]
  cases hf:fxP s.ws[0]? with
  | none=>intro t ht;simp only at ht;rw [hf] at ht;cases ht
  | some u =>
   have h0:=ahj hf
   have h1:=aaf s
   have h2:=ae2 (.joined (aat u+1)) s.skip
   simp only
   split
   ·exact ih _ _ _ (by omega)
   ·rename_i h3
    intro t ht
    simp only at ht
    rw [hf] at ht
    injection ht with ht
    rw [← ht];omega
theorem joined_below (k:Int) (s:RS):below k (RX (.joined k) s).2:=by rw [ajg];exact loopJ_below _ _ _ _ (Nat.le_refl _)
def aim:Nat→Int→Nd→RS→List Nd×RS
 | 0,_,e,s=>([e],s)
 | n+1,k,e,s=>match fxP s.ws[0]? with
  | some t=>if aat t=k then aim n k (mkE 17 0 E0 t E0 [e,hdE (RX (.joined (k+1)) s.skip).1]) (RX (.joined (k+1)) s.skip).2 else ([e],s)
  | none=>([e],s)
theorem adb {k:Int} {s:RS} (h:below k s) (e:Nd):RX (.loopJ k e) s=([e],s):=by
 rw [ajf]
 cases hf:fxP s.ws[0]? with
 | none=>rfl
 | some t =>
  have:=h t hf
  simp only
  rw [if_neg (by omega)]
theorem ad4 {k:Int} {s:RS} (h:∀ t,fxP s.ws[0]?=some t→aat t≠k) (n:Nat) (e:Nd):aim n k e s=([e],s):=by
 cases n with
 | zero=>rfl
 | succ n =>
  rw [aim]
  cases hf:fxP s.ws[0]? with
  | none=>rfl
  | some t =>
   simp only
   rw [if_neg (h t hf)]
theorem loopE_same (k:Int):∀ (n n':Nat) (e:Nd) (s:RS),s.len≤n→s.len≤n'→aim n k e s=aim n' k e s:=by
 intro n
 induction n with
 | zero =>
  intro n' e s h h'
  exact (ad4 (k:=k) (fun t ht=>by have:=ahj ht;omega) n' e).symm
 | succ n ih =>
  intro n' e s h h'
  cases hf:fxP s.ws[0]? with
  | none=>rw [ad4 (fun t ht=>by rw [hf] at ht;cases ht),ad4 (fun t ht=>by rw [hf] at ht;cases ht)]
  | some u =>
   have h0:=ahj hf
   have h1:=aaf s
   have h2:=ae2 (.joined (k+1)) s.skip
   cases n' with
   | zero=>omega
   | succ n' =>
    rw [aim,aim]
    simp only [hf]
    split
    ·exact ih _ _ _ (by omega) (by omega)
    ·rfl
theorem loopJ_level (k:Int):∀ (n:Nat) (e:Nd) (s:RS),s.len≤n→RX (.loopJ k e) s=aim n k (hdE (RX (.loopJ (k+1) e) s).1) (RX (.loopJ (k+1) e) s).2:=by
 intro n
 induction n with
 | zero =>
  intro e s hn
  have hb:∀ j,below j s:=fun j t ht=>by have:=ahj ht;omega
  rw [adb (hb k),adb (hb (k+1))]
  rfl
 | succ n ih =>
  intro e s hn
  cases hf:fxP s.ws[0]? with
  | none =>
   have hb:∀ j,below j s:=fun j t ht=>by rw [hf] at ht;cases ht
   rw [adb (hb k),adb (hb (k+1))]
   rw [ad4 (fun t ht=>by simp only at ht;rw [hf] at ht;cases ht)]
   rfl
  | some u =>
   have h0:=ahj hf
   have h1:=aaf s
   have h2:=ae2 (.joined (aat u+1)) s.skip
   by_cases hk:k≤aat u
   ·have e1:RX (.loopJ k e) s=RX (.loopJ k (mkE 17 0 E0 u E0 [e,hdE (RX (.joined (aat u+1)) s.skip).1])) (RX (.joined (aat u+1)) s.skip).2:=by
     rw [ajf,hf];simp only;rw [if_pos hk]
    rw [e1]
    by_cases hk2:aat u=k
    ·have hb:below (k+1) s:=fun t ht=>by rw [hf] at ht;injection ht with ht;rw [← ht];omega
     rw [adb hb]
     rw [aim]
     simp only [hf,hk2,if_true]
     rw [ih _ _ (by rw [hk2] at h2;omega)]
     rw [adb (joined_below _ _)]
     rfl
    ·have e2:RX (.loopJ (k+1) e) s=RX (.loopJ (k+1) (mkE 17 0 E0 u E0 [e,hdE (RX (.joined (aat u+1)) s.skip).1])) (RX (.joined (aat u+1)) s.skip).2:=by
      rw [ajf,hf];simp only;rw [if_pos (by omega)]
     rw [e2,ih _ _ (by omega)]
     have h3:=ae2 (.loopJ (k+1) (mkE 17 0 E0 u E0 [e,hdE (RX (.joined (aat u+1)) s.skip).1])) (RX (.joined (aat u+1)) s.skip).2
     exact loopE_same k _ _ _ _ (by omega) (by omega)
   ·have hb:below k s:=fun t ht=>by rw [hf] at ht;injection ht with ht;rw [← ht];omega
    have hb2:below (k+1) s:=fun t ht=>by have:=hb t ht;omega
    rw [adb hb,adb hb2]
    rw [ad4 (fun t ht=>by have:=hb t ht;omega)]
    rfl
theorem joined_top (s:RS):RX (.joined 7) s=([hdE (RX .signed s).1],(RX .signed s).2):=by
 rw [ajg]
 exact adb (fun t _=>by have:=tq_le t;omega) _
theorem joined_level (k:Int) (s:RS) (n:Nat) (hn:s.len≤n):RX (.joined k) s=aim n k (hdE (RX (.joined (k+1)) s).1) (RX (.joined (k+1)) s).2:=by
 have h:=ae2 .signed s
 rw [ajg k,ajg (k+1)]
 exact loopJ_level k n _ _ (by omega)
end
end Go.Proofs.YtddnnohfbagbnaaGreatDoor
