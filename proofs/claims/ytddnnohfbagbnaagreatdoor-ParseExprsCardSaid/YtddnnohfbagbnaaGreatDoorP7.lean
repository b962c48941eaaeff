/- Parts of the proof: RefPp, Dpt, Rdr, RefS, RefP, RefC1, RefD, RefE, RefF0, RefG, RefW. -/
import Derived.Test.YtddnnohfbagbnaaGreatDoorHi
import Derived.Test.YtddnnohfbagbnaaGreatDoorP0
import Derived.Deep.RegionHeld3
import Derived.Test.YtddnnohfbagbnaaGreatDoorP2
import Derived.Test.YtddnnohfbagbnaaGreatDoorP1
import Derived.Test.YtddnnohfbagbnaaGreatDoorP10
import Derived.Deep.AppendLies
import Derived.Deep.RegionWith
import Derived.Test.YtddnnohfbagbnaaGreatDoorP14
import Derived.WalkSmall
import Derived.Test.YtddnnohfbagbnaaGreatDoorP11
set_option maxHeartbeats 4000000
set_option maxRecDepth 100000
namespace Go.Proofs.YtddnnohfbagbnaaGreatDoor
set_option linter.unusedSimpArgs false
set_option linter.unusedVariables false
section
open Go.RowKit
theorem Rw.get {w:World} {t:Tg} {A:Option Addr} {n cap:Nat} {l:List Nd} (h:Rw w t (.slice A n cap) l) {k:Nat} (hk:k < n):∃ b o x,A=Option.some ⟨b,o,none⟩∧l[k]?=Option.some x∧x.tag=t∧∀ j u,(aab x)[j]?=Option.some u→w.cell? ⟨b,o+k * t.sz+j,none⟩=Option.some u:=by
 obtain ⟨A',cap',hv,_,ht,hc⟩:=h
 injection hv with h1 h2 h3
 obtain ⟨b,o,hA,hcell⟩:=hc (by omega)
 have hl:k < l.length:=by omega
 exact ⟨b,o,l[k],h1.trans hA,List.getElem?_eq_getElem hl,ht _ (List.getElem_mem hl),hcell k _ (List.getElem?_eq_getElem hl)⟩
theorem aff {l:List Nd} {k:Nat} {x:Nd} (h:l[k]?=some x):aal (l.take (k+1))=aal (l.take k)+x.size:=by
 have hl:=(List.getElem?_eq_some_iff.1 h)
 rw [List.take_add_one,h]
 simp [ab2,aal]
theorem ago (l:List Nd) (k:Nat):aal (l.take k)≤aal l:=by
 have:=ab2 (l.take k) (l.drop k)
 rw [List.take_append_drop] at this;omega
theorem KdL.mem_get {w:World} {l:List Nd} (h:KdL w l) {k:Nat} {x:Nd} (hx:l[k]?=some x):Kd w x:=KdL_mem h x (List.mem_of_getElem? hx)
end
section
open Go.RowKit
mutual
def abk:Nd→Nat
 | .ex _ _ _ _ _ _ l _ _=>acm l+1
 | .st ..=>1|.fd ..=>1|.mt ..=>1|.cl ..=>1
def acm:List Nd→Nat
 | []=>0
 | x :: l=>max (abk x) (acm l)
end
theorem depthL_append (a b:List Nd):acm (a ++ b)=max (acm a) (acm b):=by
 induction a with
 | nil=>simp [acm]
 | cons x a ih=>simp only [List.cons_append,acm,ih];omega
theorem depth_take {l:List Nd} {j:Nat} {x:Nd} (h:l[j]?=some x):acm (l.take (j+1))=max (acm (l.take j)) (abk x):=by
 rw [List.take_add_one,h,depthL_append];simp [acm]
theorem ael:∀ (n:Nat) (x:Nd) ,x.size≤n→abk x≤x.size
 | 0,x,h=>by have:=ac8 x;omega
 | n+1,x,h=>by
  have hl:∀ l:List Nd,aal l≤n→acm l≤aal l:=by
   intro l
   induction l with
   | nil=>intro _;simp [acm]
   | cons y l ih =>
    intro hh
    simp only [aal] at hh
    have h1:=ael n y (by omega)
    have h2:=ih (by omega)
    simp only [acm,aal];omega
  cases x with
  | ex k n' tx nm ty v l own nth =>
   simp only [Nd.size] at h ⊢
   simp only [abk]
   have:=hl l (by omega)
   omega
  | _=>simp only [abk,Nd.size];omega
def DepthOf (s:Nat):Prop:=∀ (w:World) (k n:Int) (tx nm ty:ByteArray) (nv:Value) (l:List Nd) (own:ByteArray) (nth:Int),Kd w (.ex k n tx nm ty nv l own nth)→(Nd.ex k n tx nm ty nv l own nth).size≤s →
 Calls Tryz.prog 34 #[.agg #[.int .i64 k,.int .i32 n,.string tx,.string nm,.string ty,nv,.string own,.int .i64 nth]] w fun e w'=>e=.returned (.int .i64 (abk (.ex k n tx nm ty nv l own nth)))∧Below w.heap.size w w'
theorem depth_row:∀ s,s≤1000000→DepthOf s:=by
 intro s
 induction s using Nat.strongRecOn with
 | ind s ih =>
  intro hs w k n tx nm ty nv l own nth hk hle
  have hsz:(Nd.ex k n tx nm ty nv l own nth).size=1+aal l:=by simp [Nd.size]
  have hdn:abk (.ex k n tx nm ty nv l own nth)=acm l+1:=by simp [abk]
  have hdb:acm l+1≤1000001:=by have:=ael _ _ (Nat.le_refl (Nd.ex k n tx nm ty nv l own nth).size);omega
  rw [hsz] at hle
  rw [hdn]
  rw [Kd] at hk
  obtain ⟨A,cap,rfl⟩:=hk.2.1.form
  obtain ⟨m,hm⟩:∃ m,l.length=m:=⟨_,rfl⟩
  have hml:m≤aal l:=by rw [← hm];exact agh l
  obtain ⟨d,hd⟩:∃ d,acm l=d:=⟨_,rfl⟩
  rw [hd] at hdb ⊢
  have HDD:=ke hd
  have HR:=ke hk.2.1;have HK:=ke hk.2.2;have HLN:=ke hm
  rw [hm] at HR ⊢
  clear hk hsz hm hdn hd
  go_enter Tryz.func34,Tryz.ntmps34
  go_wp2_with fail
  refine aak (fun W=>Bx W w.heap.size #[.int .i64 k,.int .i32 n,.string tx,.string nm,.string ty,.slice A m cap,.string own,.int .i64 nth] 35∧Below w.heap.size w W) ?_ ?_
  ·exact ⟨Bx.new _ _ _,(Below.refl _ w).alloc (Nat.le_refl _) _⟩
  ·rintro W ⟨hx,hW⟩
   have HX:=ke hx;have HW:=ke hW
   have hlt:=hx.lt
   clear hx hW
   go_loopw [3,9] (fun v3 v9 wr=>∃ j a:Nat,v9=.int .i64 j∧j≤m∧v3=.int .i64 a∧a=acm (l.take j)∧Below (w.heap.size+1) W wr) (fun v3 v9 wr=>m - (intOf v9).toNat)
   case atStart=>exact ⟨0,0,rfl,Nat.zero_le _,rfl,by simp [acm],Below.refl _ _⟩
   case round =>
    obtain ⟨j,a,rfl,hjm,rfl,ha,hB⟩:=hrel
    have HA:=ke ha
    clear ha
    have hBw:Below w.heap.size w wr:=HW.out.trans (hB.mono (Nat.le_succ _))
    have hWs:=HW.out.size
    have hBs:=hB.size
    have K:=Keep.below hBw
    by_cases hlt2:j < m
    ·obtain ⟨b,o,x,rfl,hx,hxt,hc⟩:=(HR.out.keep K).get hlt2
     have hxk:=KdL.mem_get (KdL.keep K _ HK.out) hx
     cases x<;>first|(simp [Nd.tag] at hxt;done)|skip
     rename_i xk xn xtx xnm xty xv xl xown xnth
     have c0:=hc 0 _ rfl;have c1:=hc 1 _ rfl;have c2:=hc 2 _ rfl;have c3:=hc 3 _ rfl;have c4:=hc 4 _ rfl;have c5:=hc 5 _ rfl;have c6:=hc 6 _ rfl;have c7:=hc 7 _ rfl
     simp only [Tg.sz,Nat.add_zero] at c0 c1 c2 c3 c4 c5 c6 c7
     have hz:=aff hx
     have hle2:=ago l (j+1)
     have hdt:=depth_take hx
     have HX1:Hid (∀ w',Below wr.heap.size wr w'→Calls Tryz.prog 34 #[.agg #[.int .i64 xk,.int .i32 xn,.string xtx,.string xnm,.string xty,xv,.string xown,.int .i64 xnth]] w' fun e w''=>e=.returned (.int .i64 (abk (.ex xk xn xtx xnm xty xv xl xown xnth)))∧Below w'.heap.size w' w''):=by
      show ∀ w',_
      intro w' hb
      exact ih (Nd.ex xk xn xtx xnm xty xv xl xown xnth).size (by omega) (by omega) w' xk xn xtx xnm xty xv xl xown xnth (Kd.keep (Keep.below hb) _ hxk) (Nat.le_refl _)
     obtain ⟨q,hq⟩:∃ q,abk (.ex xk xn xtx xnm xty xv xl xown xnth)=q:=⟨_,rfl⟩
     rw [hq] at HX1 hdt
     have HZ:=ke hdt
     rw [Kd] at hxk
     obtain ⟨xA,xcap,rfl⟩:=hxk.2.1.form
     clear hc hxk hx hxt K ih hq hz hle2 hdt
     go_wp2_with (go_at_call 34;refine (HX1.out _ (by first|exact Below.refl _ _|exact (Below.refl _ _).alloc (Nat.le_refl _) _)).mono ?_;clear HX1;rintro e w1 ⟨rfl,hb⟩;have HB1:=ke hb;clear hb)
     have hb2:Below (w.heap.size+1) W w1:=by
      have h1:=hB.alloc (by omega) (.cells #[.int .i64 xk,.int .i32 xn,.string xtx,.string xnm,.string xty,.slice xA xl.length xcap,.string xown,.int .i64 xnth] 35)
      exact h1.trans (HB1.out.mono (by simp;omega))
     refine ⟨⟨j+1,max a q,by simp,by omega,?_,by rw [HZ.out,← HA.out],hb2⟩,by simp [intOf];omega⟩
     congr 1;omega
    ·have hkl:l.take j=l:=List.take_of_length_le (by rw [HLN.out];omega)
     have had:a=d:=by rw [HA.out,hkl,HDD.out]
     subst had
     have HD:=ke hBw
     clear ih hkl K hB hBw
     go_wp2_with fail
     go_ret
     exact ⟨by simp,HD.out⟩
end
section
open Go.RowKit
def ac4 (x:Pl):List Value:=[x.1.V,.int .i64 x.2]
theorem Tryz.infoPl:(Tryz.prog.info? 87).map (fun i=>(i.zero,i.size,i.bytes))=some (some (.agg #[.nilIface,.int .i64 0]),2,24):=by kernel_rfl
theorem pr_one (x:Pr):x.V.oneCell'=true:=by cases x<;>rfl
theorem pl_one (l:List Pl):∀ u ∈ l.flatMap ac4,u.oneCell'=true:=by
 intro u hu
 rw [List.mem_flatMap] at hu
 obtain ⟨x,hx,hu⟩:=hu
 simp only [ac4,List.mem_cons,List.not_mem_nil,or_false] at hu
 rcases hu with rfl|rfl
 ·exact pr_one _
 ·rfl
theorem ajs:∀ (l:List Pl) (i j:Nat) (x:Pl),l[i]?=some x→j < 2→(l.flatMap ac4)[i * 2+j]?=(ac4 x)[j]?
 | [],i,j,x,h,_=>by simp at h
 | y :: l,0,j,x,h,hj=>by
  simp only [List.getElem?_cons_zero,Option.some.injEq] at h
  subst h
  simp only [List.flatMap_cons,Nat.zero_mul,Nat.zero_add]
  rw [List.getElem?_append_left (by simpa [ac4] using hj)]
 | y :: l,i+1,j,x,h,hj=>by
  simp only [List.getElem?_cons_succ] at h
  have:=ajs l i j x h hj
  simp only [List.flatMap_cons]
  rw [List.getElem?_append_right (by simp [ac4];omega),← this]
  congr 1
  simp [ac4];omega
theorem ww_own {B:Nat} {w:World} {v:Value} {l:List Pl} (h:w.ownsRow B 87 2 v l.length (l.flatMap ac4)) (hm:l.length≤1000000) (ht:∀ x ∈ l,x.1.text.size≤1000000) (hc:∃ A n cap,v=.slice A n cap∧cap≤maxLen):Ww w v l:=by
 obtain ⟨A,cap,rfl,hcap⟩:=abc h
 obtain ⟨A',n',cap',e,hcm⟩:=hc
 injection e with e1 e2 e3
 refine ⟨A,cap,rfl,⟨hm,hcap,by omega⟩,ht,fun hn=>?_⟩
 obtain ⟨g,cap2,hv,hg,hl,hat⟩:=ags h hn
 injection hv with h1 h2 h3
 refine ⟨g,0,h1,fun i x hx=>⟨?_,?_⟩⟩
 ·have:=(hat (i * 2+0) x.1.V (by rw [ajs l i 0 x hx (by omega)];rfl)).1
  rw [Nat.zero_add];exact this
 ·have:=(hat (i * 2+1) (.int .i64 x.2) (by rw [ajs l i 1 x hx (by omega)];rfl)).1
  rw [Nat.zero_add];exact this
theorem afc:∀ (l:List Wd) (i j:Nat) (x:Wd),l[i]?=some x→j < 3→(cellsW l)[i * 3+j]?=(wcells x)[j]?
 | [],i,j,x,h,_=>by simp at h
 | y :: l,0,j,x,h,hj=>by
  simp only [List.getElem?_cons_zero,Option.some.injEq] at h
  subst h
  simp only [cellsW,List.flatMap_cons,Nat.zero_mul,Nat.zero_add]
  rw [List.getElem?_append_left (by simpa [wcells] using hj)]
 | y :: l,i+1,j,x,h,hj=>by
  simp only [List.getElem?_cons_succ] at h
  have:=afc l i j x h hj
  simp only [cellsW,List.flatMap_cons] at this ⊢
  rw [List.getElem?_append_right (by simp [wcells];omega),← this]
  congr 1
  simp [wcells];omega
structure MkAt (w:World) (b0:Nat) (sz e a:Int) (ws:List Wd) (vw:Value) (k:Nat) (wr:World) (A:Option Addr) (cap:Nat):Prop where
 bel:Below w.heap.size w wr
 bx:Bx wr b0 #[.slice A ((ws.map afr).take k).length cap,.int .i64 sz,.int .i64 0,.int .i64 e,.int .i64 a,.int .i64 0,.int .i64 0] 56
 own:wr.ownsRow (b0+1) 87 2 (.slice A ((ws.map afr).take k).length cap) ((ws.map afr).take k).length (((ws.map afr).take k).flatMap ac4)
 row:wr.ownsRow w.heap.size 83 3 vw ws.length (cellsW ws)
 old:∀ g,vw.ownBlock=some g→g < b0
 hb:w.heap.size≤b0
section
variable {w wr w':World} {b0:Nat} {sz e a:Int} {ws:List Wd} {vw:Value} {k:Nat} {A:Option Addr} {cap:Nat}
theorem MkAt.below (h:MkAt w b0 sz e a ws vw k wr A cap) (hb:Below wr.heap.size wr w'):MkAt w b0 sz e a ws vw k w' A cap :=
 ⟨h.bel.trans (hb.mono h.bel.size),h.bx.next hb,abr h.own hb,abr h.row hb,h.old,h.hb⟩
theorem MkAt.put {x:Wd} {A3:Option Addr} {c3 n:Nat} (h:MkAt w b0 sz e a ws vw k wr A cap) (hx:ws[k]?=some x) (ho:w'.ownsRow (b0+1) 87 2 (.slice A3 n c3) n (((ws.map afr).take k).flatMap ac4 ++ ac4 (afr x)))
 (hg:wr.grownBy w' (Value.slice A ((ws.map afr).take k).length cap).ownBlock) (hn:n=((ws.map afr).take (k+1)).length):MkAt w b0 sz e a ws vw (k+1) (w'.setCell ⟨b0,0,none⟩ (.slice A3 n c3)) A3 c3:=by
 subst hn
 have hgg:=aac w' b0 0 (.slice A3 ((ws.map afr).take (k+1)).length c3)
 have hbx:Bx w' b0 #[.slice A ((ws.map afr).take k).length cap,.int .i64 sz,.int .i64 0,.int .i64 e,.int .i64 a,.int .i64 0,.int .i64 0] 56 :=
  (hg.block b0 h.bx.lt (fun q=>by have:=(h.own.lt b0 q.symm).1;omega)).trans h.bx
 have hrow:w'.ownsRow w.heap.size 83 3 vw ws.length (cellsW ws):=h.row.kept hg (by
  cases hv:vw.ownBlock with
  | none=>exact .inl rfl
  | some g=>exact .inr (fun q=>by have h1:=h.old g hv;have:=(h.own.lt g q.symm).1;omega))
 refine ⟨(h.bel.grown hg h.bel.size (fun q hq=>by have:=(h.own.lt q hq).1;have:=h.hb;omega)).setCell h.hb _,?_,?_,hrow.kept hgg (by
  cases hv:vw.ownBlock with
  | none=>exact .inl rfl
  | some g=>exact .inr (by have:=h.old g hv;simp;omega)),h.old,h.hb⟩
 ·have:=hbx.set 0 (.slice A3 ((ws.map afr).take (k+1)).length c3)
  simpa using this
 ·have e1:(ws.map afr).take (k+1)=(ws.map afr).take k ++ [afr x]:=by rw [List.take_add_one,List.getElem?_map,hx];rfl
  have e2:((ws.map afr).take (k+1)).flatMap ac4=((ws.map afr).take k).flatMap ac4 ++ ac4 (afr x):=by rw [e1];simp
  rw [e2]
  refine ho.kept hgg ?_
  cases hv:(Value.slice A3 ((ws.map afr).take (k+1)).length c3).ownBlock with
  | none=>exact .inl rfl
  | some g=>exact .inr (by have:=(ho.lt g hv).1;simp;omega)
end
end
section
open Go.RowKit
theorem sameL_head (x y:Nd) (l m:List Nd):acx (x :: l) (y :: m)=(acx [x] [y] && acx l m):=by rw [aga,sameL_one,Bool.and_assoc]
theorem sameL_drop {l l':List Nd} {k:Nat} {x y:Nd} (h:l[k]?=some x) (h':l'[k]?=some y):acx (l.drop k) (l'.drop k)=(acx [x] [y] && acx (l.drop (k+1)) (l'.drop (k+1))):=by
 obtain ⟨h1,h2⟩:=List.getElem?_eq_some_iff.1 h
 obtain ⟨h3,h4⟩:=List.getElem?_eq_some_iff.1 h'
 rw [List.drop_eq_getElem_cons h1,List.drop_eq_getElem_cons h3,h2,h4,sameL_head]
theorem same_ex (k n:Int) (tx nm ty:ByteArray) (nv:Value) (l:List Nd) (own:ByteArray) (nth:Int) (k' n':Int) (tx' nm' ty':ByteArray) (nv':Value) (l':List Nd) (own':ByteArray) (nth':Int) :
 acx [.ex k n tx nm ty nv l own nth] [.ex k' n' tx' nm' ty' nv' l' own' nth']=((k == k') && ((n == n') && ((tx.toList == tx'.toList) && ((nm.toList == nm'.toList) && ((ty.toList == ty'.toList) && acx l l'))))):=by
 rw [sameL_one]
 simp only [ajd,Nd.kids]
 by_cases hl:l.length=l'.length
 ·have:(l.length == l'.length)=true:=by rw [beq_iff_eq];exact hl
  rw [this];simp only [Bool.and_true,Bool.and_assoc]
 ·rw [sameL_ne _ _ hl];simp
def ExSame (s:Nat):Prop:=∀ (w:World) (v v':Value) (l l':List Nd),aal l≤s→Rw w .ex v l→KdL w l→Rw w .ex v' l'→KdL w l'→Calls Tryz.prog 39 #[v,v'] w fun e w'=>e=.returned (.bool (acx l l'))∧Below w.heap.size w w'
theorem ref_same_of (s:Nat) (IH:ExSame s) (w:World) (k n:Int) (tx nm ty:ByteArray) (nv:Value) (l:List Nd) (own:ByteArray) (nth:Int) (k' n':Int) (tx' nm' ty':ByteArray) (nv':Value) (l':List Nd) (own':ByteArray) (nth':Int)
 (hk:Kd w (.ex k n tx nm ty nv l own nth)) (hk':Kd w (.ex k' n' tx' nm' ty' nv' l' own' nth')) (hl:aal l≤s) (r:Bool) (hr:acx [.ex k n tx nm ty nv l own nth] [.ex k' n' tx' nm' ty' nv' l' own' nth']=r) :
 Calls Tryz.prog 12 #[.agg #[.int .i64 k,.int .i32 n,.string tx,.string nm,.string ty,nv,.string own,.int .i64 nth],.agg #[.int .i64 k',.int .i32 n',.string tx',.string nm',.string ty',nv',.string own',.int .i64 nth']] w fun e w'=>e=.returned (.bool r)∧Below w.heap.size w w':=by
 rw [Kd] at hk hk'
 obtain ⟨A,cap,rfl⟩:=hk.2.1.form
 obtain ⟨A',cap',rfl⟩:=hk'.2.1.form
 obtain ⟨W,hW⟩:∃ W,(w.alloc (.cells #[.int .i64 k,.int .i32 n,.string tx,.string nm,.string ty,.slice A l.length cap,.string own,.int .i64 nth] 35)).alloc (.cells #[.int .i64 k',.int .i32 n',.string tx',.string nm',.string ty',.slice A' l'.length cap',.string own',.int .i64 nth'] 35)=W:=⟨_,rfl⟩
 have hb:Below w.heap.size w W:=by rw [← hW];exact ((Below.refl _ w).alloc (Nat.le_refl _) _).alloc (by simp) _
 have hx:Bx W w.heap.size #[.int .i64 k,.int .i32 n,.string tx,.string nm,.string ty,.slice A l.length cap,.string own,.int .i64 nth] 35:=by rw [← hW];exact (Bx.new _ _ _).next ((Below.refl _ _).alloc (Nat.le_refl _) _)
 have hy:Bx W (w.heap.size+1) #[.int .i64 k',.int .i32 n',.string tx',.string nm',.string ty',.slice A' l'.length cap',.string own',.int .i64 nth'] 35:=by
  rw [← hW]
  have:=Bx.new (w.alloc (.cells #[.int .i64 k,.int .i32 n,.string tx,.string nm,.string ty,.slice A l.length cap,.string own,.int .i64 nth] 35)) #[.int .i64 k',.int .i32 n',.string tx',.string nm',.string ty',.slice A' l'.length cap',.string own',.int .i64 nth'] 35
  simpa using this
 have K:=Keep.below hb
 have HI:=ke (IH W _ _ l l' hl (hk.2.1.keep K) (KdL.keep K _ hk.2.2) (hk'.2.1.keep K) (KdL.keep K _ hk'.2.2))
 have x0:=hx.cell 0;have x1:=hx.cell 1;have x2:=hx.cell 2;have x3:=hx.cell 3;have x4:=hx.cell 4;have x5:=hx.cell 5
 have y0:=hy.cell 0;have y1:=hy.cell 1;have y2:=hy.cell 2;have y3:=hy.cell 3;have y4:=hy.cell 4;have y5:=hy.cell 5
 simp only [List.getElem?_toArray,List.getElem?_cons_zero,List.getElem?_cons_succ] at x0 x1 x2 x3 x4 x5 y0 y1 y2 y3 y4 y5
 rw [same_ex] at hr
 obtain ⟨q,hq⟩:∃ q,acx l l'=q:=⟨_,rfl⟩
 rw [hq] at HI hr
 have HB:=ke hb
 obtain ⟨q0,h0⟩:∃ q,(k == k')=q:=⟨_,rfl⟩
 obtain ⟨q1,h1⟩:∃ q,(n == n')=q:=⟨_,rfl⟩
 obtain ⟨q2,h2⟩:∃ q,(tx.toList == tx'.toList)=q:=⟨_,rfl⟩
 obtain ⟨q3,h3⟩:∃ q,(nm.toList == nm'.toList)=q:=⟨_,rfl⟩
 obtain ⟨q4,h4⟩:∃ q,(ty.toList == ty'.toList)=q:=⟨_,rfl⟩
 rw [h0,h1,h2,h3,h4] at hr
 have HR:=ke hr
 clear hk hk' K hx hy IH hq hr hb
 go_enter Tryz.func12,Tryz.ntmps12
 go_wp2_with (go_at_call 39;refine HI.out.mono ?_;clear HI;rintro e w1 ⟨rfl,hb1⟩)
 all_goals go_ret
 all_goals have hr:=HR.out
 all_goals have hb:=HB.out
 all_goals subst hr
 all_goals first
  | exact ⟨aae (by simp only [*,Bool.true_and,Bool.false_and,Bool.not_eq_true] at *;try simp [*]),hb.trans (hb1.mono hb.size)⟩
  | exact ⟨aae (by simp [*]),hb⟩
theorem ref_sames_any:∀ s,s≤1000000→ExSame s:=by
 intro s
 induction s using Nat.strongRecOn with
 | ind s ih =>
  intro hs w v v' l l' hl hr hk hr' hk'
  obtain ⟨A,cap,rfl⟩:=hr.form
  obtain ⟨A',cap',rfl⟩:=hr'.form
  have hlen:l.length≤1000000:=by have:=agh l;omega
  have hlen':l'.length≤maxLen:=by obtain ⟨_,_,_,h,_⟩:=hr';exact h.1
  unfold maxLen at hlen'
  obtain ⟨q,hq⟩:∃ q,acx l l'=q:=⟨_,rfl⟩
  rw [hq]
  by_cases hne:l.length=l'.length
  ·obtain ⟨n,hn⟩:∃ n,l.length=n:=⟨_,rfl⟩
   have hn':l'.length=n:=hne ▸ hn
   rw [hn] at hr hlen ⊢
   rw [hn'] at hr' ⊢
   have HR:=ke hr;have HK:=ke hk;have HR':=ke hr';have HK':=ke hk'
   have HLN:=ke hn;have HLN':=ke hn'
   have HS0:=ke (show acx (l.drop 0) (l'.drop 0)=q by simpa using hq)
   have HL:=ke hl
   clear hr hk hr' hk' hn hn' hne hq hlen' hl
   go_enter Tryz.func39,Tryz.ntmps39
   go_wp2
   go_loopw [5] (fun v5 wr=>∃ k:Nat,v5=.int .i64 k∧k≤n∧acx (l.drop k) (l'.drop k)=q∧Below w.heap.size w wr) (fun v5 wr=>n - (intOf v5).toNat)
   case atStart=>exact ⟨0,rfl,Nat.zero_le _,HS0.out,Below.refl _ _⟩
   case round =>
    obtain ⟨k,rfl,hkn,hsk,hB⟩:=hrel
    clear HS0
    by_cases hlt:k < n
    ·have K:=Keep.below hB
     obtain ⟨b,o,x,rfl,hx,hxt,hc⟩:=(HR.out.keep K).get hlt
     obtain ⟨b',o',y,rfl,hy,hyt,hc'⟩:=(HR'.out.keep K).get hlt
     have hxk:=KdL.mem_get (KdL.keep K _ HK.out) hx
     have hyk:=KdL.mem_get (KdL.keep K _ HK'.out) hy
     rw [sameL_drop hx hy] at hsk
     have hxs:x.size≤s:=Nat.le_trans (agn (List.mem_of_getElem? hx)) HL.out
     cases x<;>first|(simp [Nd.tag] at hxt;done)|skip
     rename_i xk xn xtx xnm xty xv xl xown xnth
     cases y<;>first|(simp [Nd.tag] at hyt;done)|skip
     rename_i yk yn ytx ynm yty yv yl yown ynth
     obtain ⟨t,ht⟩:∃ t,acx [.ex xk xn xtx xnm xty xv xl xown xnth] [.ex yk yn ytx ynm yty yv yl yown ynth]=t:=⟨_,rfl⟩
     rw [ht] at hsk
     have hsz:(Nd.ex xk xn xtx xnm xty xv xl xown xnth).size=1+aal xl:=by simp [Nd.size]
     have hb0:Below wr.heap.size wr wr.drew:=(Below.refl _ wr).drew
     have HX:=ke (ref_same_of (s - 1) (ih (s - 1) (by omega) (by omega)) wr.drew xk xn xtx xnm xty xv xl xown xnth yk yn ytx ynm yty yv yl yown ynth (Kd.keep (Keep.below hb0) _ hxk) (Kd.keep (Keep.below hb0) _ hyk) (by omega) t ht)
     have x0:=hc 0 _ rfl;have x1:=hc 1 _ rfl;have x2:=hc 2 _ rfl;have x3:=hc 3 _ rfl;have x4:=hc 4 _ rfl;have x5:=hc 5 _ rfl;have x6:=hc 6 _ rfl;have x7:=hc 7 _ rfl
     have y0:=hc' 0 _ rfl;have y1:=hc' 1 _ rfl;have y2:=hc' 2 _ rfl;have y3:=hc' 3 _ rfl;have y4:=hc' 4 _ rfl;have y5:=hc' 5 _ rfl;have y6:=hc' 6 _ rfl;have y7:=hc' 7 _ rfl
     simp only [Tg.sz,Nat.add_zero] at x0 x1 x2 x3 x4 x5 x6 x7 y0 y1 y2 y3 y4 y5 y6 y7
     obtain ⟨xA,xcap,rfl⟩:=(by rw [Kd] at hxk;exact hxk.2.1.form:∃ A cap,xv=.slice A xl.length cap)
     obtain ⟨yA,ycap,rfl⟩:=(by rw [Kd] at hyk;exact hyk.2.1.form:∃ A cap,yv=.slice A yl.length cap)
     have HB:=ke hB
     have HSK:=ke hsk
     have hi0:(0:Int)≤(k:Int):=by omega
     have hi1:(k:Int) < (n:Int):=by omega
     clear hc hc' hxk hyk hx hy ht hsz hxt hyt K hB hxs hsk ih
     go_wp2_with fail
     go_region_with (go_at_call 12;refine HX.out.mono ?_;clear HX;rintro e w1 ⟨rfl,hb⟩)
     all_goals
      have hB1:=(HB.out.drew).trans (hb.mono HB.out.size)
      have h2:=HSK.out
      clear hb
      cases t
      ·go_wp2_with fail
       go_ret
       exact ⟨aae (by rw [← h2];simp),hB1⟩
      ·go_wp2_with fail
       go_roundw
       case rel=>exact ⟨k+1,by go_num,by omega,by rw [← h2];simp,hB1⟩
       case measure=>simp [intOf];omega
    ·rw [List.drop_eq_nil_of_le (by rw [HLN.out];omega),List.drop_eq_nil_of_le (by rw [HLN'.out];omega),sameL_nil] at hsk
     clear ih
     go_wp2
     go_ret
     exact ⟨aae hsk,hB⟩
  ·have hf:q=false:=by rw [← hq];exact sameL_ne _ _ hne
   have hne2:((l.length:Int) != (l'.length:Int))=true:=by simp;omega
   clear hr hk hr' hk' hl hq ih
   go_enter Tryz.func39,Tryz.ntmps39
   go_wp2
   go_ret
   exact ⟨aae hf.symm,Below.refl _ _⟩
end
section
open Go.RowKit
def ExprsRef (s:Nat):Prop:=∀ (w:World) (v:Value) (l:List Nd),aal l≤s→Rw w .ex v l→KdL w l→Calls Tryz.prog 67 #[v] w fun e w'=>e=.returned (.int .i64 (aal l:Nat))∧Below w.heap.size w w'
theorem agq (s:Nat) (hs:s≤1000000) (IH:ExprsRef s) (w:World) (k n:Int) (tx nm ty:ByteArray) (nv:Value) (l:List Nd) (own:ByteArray) (nth:Int) (hk:Kd w (.ex k n tx nm ty nv l own nth)) (hl:aal l≤s) :
 Calls Tryz.prog 37 #[.agg #[.int .i64 k,.int .i32 n,.string tx,.string nm,.string ty,nv,.string own,.int .i64 nth]] w fun e w'=>e=.returned (.int .i64 ((Nd.ex k n tx nm ty nv l own nth).size:Nat))∧Below w.heap.size w w':=by
 rw [Kd] at hk
 obtain ⟨A,cap,rfl⟩:=hk.2.1.form
 have K:=keep_alloc w (.cells #[.int .i64 k,.int .i32 n,.string tx,.string nm,.string ty,.slice A l.length cap,.string own,.int .i64 nth] 35)
 have HI:=ke (IH _ _ l hl (hk.2.1.keep K) (KdL.keep K _ hk.2.2))
 have c5:(w.alloc (.cells #[.int .i64 k,.int .i32 n,.string tx,.string nm,.string ty,.slice A l.length cap,.string own,.int .i64 nth] 35)).cell? ⟨w.heap.size,5,none⟩=some (.slice A l.length cap):=by simp [go_sem]
 have hz:((Nd.ex k n tx nm ty (.slice A l.length cap) l own nth).size:Int)=1+(aal l:Nat):=by simp [Nd.size]
 rw [hz]
 clear hk K IH hz
 go_enter Tryz.func37,Tryz.ntmps37
 go_wp2_with (go_at_call 67;refine HI.out.mono ?_;clear HI;rintro e w1 ⟨rfl,hb⟩)
 have hb2:=aeg hb
 go_ret
 exact ⟨rfl,hb2⟩
theorem agp:∀ s,s≤1000000→ExprsRef s:=by
 intro s
 induction s using Nat.strongRecOn with
 | ind s ih =>
  intro hs w v l hl hr hk
  obtain ⟨A,cap,rfl⟩:=hr.form
  obtain ⟨n,hn⟩:∃ n,l.length=n:=⟨_,rfl⟩
  obtain ⟨N,hN⟩:∃ N,aal l=N:=⟨_,rfl⟩
  have hm:n≤1000000:=by have:=agh l;omega
  rw [hn] at hr ⊢
  rw [hN] at hl ⊢
  have HR:=ke hr;have HK:=ke hk;have HN:=ke hN;have HLN:=ke hn
  clear hr hk hN hn
  go_enter Tryz.func67,Tryz.ntmps67
  go_wp2
  go_loopw [3,4] (fun v3 v4 wr=>∃ k:Nat,v4=.int .i64 k∧k≤n∧v3=.int .i64 (aal (l.take k):Nat)∧Below w.heap.size w wr) (fun v3 v4 wr=>n - (intOf v4).toNat)
  case atStart=>exact ⟨0,rfl,Nat.zero_le _,rfl,Below.refl _ _⟩
  case round =>
   obtain ⟨k,rfl,hkn,rfl,hB⟩:=hrel
   by_cases hlt:k < n
   ·have K:=Keep.below hB
    obtain ⟨b,o,x,rfl,hx,hxt,hc⟩:=(HR.out.keep K).get hlt
    have hxk:=KdL.mem_get (KdL.keep K _ HK.out) hx
    cases x<;>first|(simp [Nd.tag] at hxt;done)|skip
    rename_i xk xn xtx xnm xty xv xl xown xnth
    have c0:=hc 0 _ rfl;have c1:=hc 1 _ rfl;have c2:=hc 2 _ rfl;have c3:=hc 3 _ rfl;have c4:=hc 4 _ rfl;have c5:=hc 5 _ rfl;have c6:=hc 6 _ rfl;have c7:=hc 7 _ rfl
    simp only [Tg.sz,Nat.add_zero] at c0 c1 c2 c3 c4 c5 c6 c7
    have hz:=aff hx
    have hle:=ago l (k+1)
    rw [HN.out] at hle
    have hsz:(Nd.ex xk xn xtx xnm xty xv xl xown xnth).size=1+aal xl:=by simp [Nd.size]
    obtain ⟨m,hm'⟩:∃ m,aal (l.take k)=m:=⟨_,rfl⟩
    obtain ⟨q,hq⟩:∃ q,(Nd.ex xk xn xtx xnm xty xv xl xown xnth).size=q:=⟨_,rfl⟩
    have HX:=ke (agq (s - 1) (by omega) (ih (s - 1) (by omega) (by omega)) wr xk xn xtx xnm xty xv xl xown xnth hxk (by omega))
    rw [hq] at HX
    obtain ⟨xA,xcap,rfl⟩:=(by rw [Kd] at hxk;exact hxk.2.1.form:∃ A cap,xv=.slice A xl.length cap)
    rw [hm',hq] at hz
    rw [hz] at hle
    rw [hm']
    have HZ:=ke hz
    have HB:=ke hB
    clear hc hxk hx hz hm' hq hsz hxt K hB ih
    go_wp2_with (go_at_call 37;refine HX.out.mono ?_;clear HX;rintro e w1 ⟨rfl,hb⟩)
    have hB1:=HB.out.trans (hb.mono HB.out.size)
    clear hb
    go_roundw
    case rel=>exact ⟨k+1,by go_num,by omega,by rw [HZ.out];go_num,hB1⟩
    case measure=>simp [intOf];omega
   ·have hkl:l.take k=l:=List.take_of_length_le (by rw [HLN.out];omega)
    rw [hkl,HN.out]
    clear ih hkl
    go_wp2
    go_ret
    exact ⟨rfl,hB⟩
end
section
open Go.RowKit
theorem one2 (s:ByteArray) (p:Nat) (w:World) (hs:s.size≤16777216) (hp:p < s.size) (h1:194≤bt s p) (h2:bt s p≤223) (hn:p+2≤s.size):ab9 s p w:=by
 unfold ab9
 have hbt:=abu s p hp
 have hpn:(p:Int)+2≤s.size:=by omega
 have i0:128≤((bt s p:Nat):Int):=by omega
 have i1:194≤((bt s p:Nat):Int):=by omega
 have i2:((bt s p:Nat):Int)≤223:=by omega
 have hand:=i32_and31 (bt s p) (by omega) (by omega)
 go_enter Tryz.func80,Tryz.ntmps80
 go_wp2
 go_loopw [9,10] (fun r k w1=>w1=w.alloc (.cells #[.int .i32 0,.int .i64 0,.bool false] 130)∧∃ j:Nat,1≤j∧j≤2∧k=.int .i64 j∧r=.int .i32 (ad7 s p 32 j:Nat)∧(2≤j→128≤bt s (p+1)∧bt s (p+1)≤191)∧(3≤j→128≤bt s (p+2)∧bt s (p+2)≤191)∧(4≤j→128≤bt s (p+3)∧bt s (p+3)≤191)) (fun r k w1=>2 - (intOf k).toNat)
 case atStart=>exact ⟨rfl,1,by omega,by omega,rfl,by simp [ad7],fun h=>by omega,fun h=>by omega,fun h=>by omega⟩
 case round =>
  obtain ⟨rfl,j,hj1,hj2,rfl,rfl,g1,g2,g3⟩:=hrel
  have G1:=ke g1;clear g1
  have G2:=ke g2;clear g2
  have G3:=ke g3;clear g3
  clear hand hbt
  by_cases hlt:j < 2
  ·have hpj:p+j < s.size:=by omega
   have hbt:=abu s (p+j) hpj
   have hb256:=ac2 s (p+j)
   have hand:=aew (bt s (p+j)) (by omega) (by omega)
   have hacc:=ahp s p 32 (by omega) (by omega) j (by omega)
   have hj64:(j:Int) < 2:=by omega
   have HN:=ke (ae1 s p 32 j hj1)
   rcases Nat.lt_or_ge 1 j with hj|hj
   ·exfalso;omega
   ·obtain rfl:j=1:=by omega
    by_cases c1:128≤bt s (p+1)∧bt s (p+1)≤191
    ·obtain ⟨c1,c2⟩:=c1
     have c1':128≤((bt s (p+1):Nat):Int):=by omega
     have c2':((bt s (p+1):Nat):Int)≤191:=by omega
     have c3':128≤((bt s (p+1):Nat):Int):=by omega
     have c4':((bt s (p+1):Nat):Int)≤191:=by omega
     go_wp2
     go_roundw
     case rel =>
      refine ⟨trivial,2,by omega,by omega,rfl,?_,fun g=>⟨c1,c2⟩,fun g=>by omega,fun g=>by omega⟩
      rw [HN.out];go_num
     case measure=>simp [intOf]
    ·have HD:Hid (Utf8.decode s p=(65533,1)):=by
      apply dbad s p (by omega)
      ·intro k;obtain ⟨_,_,_,_,_⟩:=k;omega
      ·intro k;obtain ⟨_,_,_,_,_,_,_,_,_⟩:=k;omega
      ·intro k;obtain ⟨_,_,_,_,_,_,_,_,_,_,_⟩:=k;omega
     rcases (show bt s (p+1) < 128∨(128≤bt s (p+1)∧191 < bt s (p+1)) from by omega) with c1|⟨c1,c2⟩
     ·have c1':((bt s (p+1):Nat):Int) < 128:=by omega
      go_wp2
      (refine bodyPost_ret (v:=.agg #[.int .i32 65533,.int .i64 1,.bool true]) (by simp [results,Tryz.results80,go_sem]) rfl ⟨?_,aag _ _ _⟩;rw [aau HD.out,HD.out];rfl)
     ·have c1':128≤((bt s (p+1):Nat):Int):=by omega
      have c2':191 < ((bt s (p+1):Nat):Int):=by omega
      go_wp2
      (refine bodyPost_ret (v:=.agg #[.int .i32 65533,.int .i64 1,.bool true]) (by simp [results,Tryz.results80,go_sem]) rfl ⟨?_,aag _ _ _⟩;rw [aau HD.out,HD.out];rfl)
  ·obtain rfl:j=2:=by omega
   have HE:Hid (Utf8.decode s p=(ad7 s p 32 2,2)):=by
    show Utf8.decode s p=(ad7 s p 32 2,2)
    have l1:=G1.out (by omega)
    skip
    skip
    rw [aef,dec2 _ _ _ _ _ ⟨by omega,by omega,by omega,by omega,by omega⟩]
    simp only [ad7,Nat.add_zero]
    exact Prod.ext (by simp only [Nat.add_assoc,Nat.reduceAdd];omega) rfl
   go_wp2
   refine bodyPost_ret (v:=.agg #[.int .i32 (ad7 s p 32 2:Nat),.int .i64 2,.bool false]) (by simp [results,Tryz.results80,go_sem]) rfl ⟨?_,aag _ _ _⟩
   rw [ads (by rw [HE.out];simp),HE.out]
   rfl
theorem one3a (s:ByteArray) (p:Nat) (w:World) (hs:s.size≤16777216) (hp:p < s.size) (h1:224≤bt s p) (h2:bt s p≤224) (hn:p+3≤s.size):ab9 s p w:=by
 unfold ab9
 have hbt:=abu s p hp
 have hpn:(p:Int)+3≤s.size:=by omega
 have i0:128≤((bt s p:Nat):Int):=by omega
 have i1:194≤((bt s p:Nat):Int):=by omega
 have i2:223 < ((bt s p:Nat):Int):=by omega
 have i3:224≤((bt s p:Nat):Int):=by omega
 have i4:((bt s p:Nat):Int)≤239:=by omega
 have q224:(((bt s p:Nat):Int) == 224)=true:=by rw [beq_iff_eq];omega
 have q237:(((bt s p:Nat):Int) == 237)=false:=by rw [beq_eq_false_iff_ne];omega
 have hand:=ai5 (bt s p) (by omega) (by omega)
 go_enter Tryz.func80,Tryz.ntmps80
 go_wp2
 go_loopw [9,10] (fun r k w1=>w1=w.alloc (.cells #[.int .i32 0,.int .i64 0,.bool false] 130)∧∃ j:Nat,1≤j∧j≤3∧k=.int .i64 j∧r=.int .i32 (ad7 s p 16 j:Nat)∧(2≤j→160≤bt s (p+1)∧bt s (p+1)≤191)∧(3≤j→128≤bt s (p+2)∧bt s (p+2)≤191)∧(4≤j→128≤bt s (p+3)∧bt s (p+3)≤191)) (fun r k w1=>3 - (intOf k).toNat)
 case atStart=>exact ⟨rfl,1,by omega,by omega,rfl,by simp [ad7],fun h=>by omega,fun h=>by omega,fun h=>by omega⟩
 case round =>
  obtain ⟨rfl,j,hj1,hj2,rfl,rfl,g1,g2,g3⟩:=hrel
  have G1:=ke g1;clear g1
  have G2:=ke g2;clear g2
  have G3:=ke g3;clear g3
  clear hand hbt
  by_cases hlt:j < 3
  ·have hpj:p+j < s.size:=by omega
   have hbt:=abu s (p+j) hpj
   have hb256:=ac2 s (p+j)
   have hand:=aew (bt s (p+j)) (by omega) (by omega)
   have hacc:=ahp s p 16 (by omega) (by omega) j (by omega)
   have hj64:(j:Int) < 3:=by omega
   have HN:=ke (ae1 s p 16 j hj1)
   rcases Nat.lt_or_ge 1 j with hj|hj
   ·have hjb:((j:Int) == 1)=false:=by rw [beq_eq_false_iff_ne];omega
    by_cases c1:128≤bt s (p+j)∧bt s (p+j)≤191
    ·obtain ⟨c1,c2⟩:=c1
     have c1':128≤((bt s (p+j):Nat):Int):=by omega
     have c2':((bt s (p+j):Nat):Int)≤191:=by omega
     go_wp2
     go_roundw
     case rel =>
      refine ⟨trivial,j+1,by omega,by omega,by go_num,?_,fun g=>G1.out (by omega),fun g=>?_,fun g=>?_⟩
      ·rw [HN.out];go_num
      ·by_cases e:j=2
       ·subst e;exact ⟨c1,c2⟩
       ·exact G2.out (by omega)
      ·by_cases e:j=3
       ·subst e;exact ⟨c1,c2⟩
       ·exact G3.out (by omega)
     case measure=>simp [intOf];omega
    ·have HD:Hid (Utf8.decode s p=(65533,1)):=by
      apply dbad s p (by omega)
      ·intro k;have:=k.2.1;omega
      ·intro k;obtain ⟨_,_,_,_,_,_,_,_,_⟩:=k
       have e:j=2:=by omega
       subst e;omega
      ·intro k;obtain ⟨_,_,_,_,_,_,_,_,_,_,_⟩:=k
       have e:j=2∨j=3:=by omega
       rcases e with rfl|rfl<;>omega
     rcases (show bt s (p+j) < 128∨(128≤bt s (p+j)∧191 < bt s (p+j)) from by omega) with c1|⟨c1,c2⟩
     ·have c1':((bt s (p+j):Nat):Int) < 128:=by omega
      go_wp2
      (refine bodyPost_ret (v:=.agg #[.int .i32 65533,.int .i64 1,.bool true]) (by simp [results,Tryz.results80,go_sem]) rfl ⟨?_,aag _ _ _⟩;rw [aau HD.out,HD.out];rfl)
     ·have c1':128≤((bt s (p+j):Nat):Int):=by omega
      have c2':191 < ((bt s (p+j):Nat):Int):=by omega
      go_wp2
      (refine bodyPost_ret (v:=.agg #[.int .i32 65533,.int .i64 1,.bool true]) (by simp [results,Tryz.results80,go_sem]) rfl ⟨?_,aag _ _ _⟩;rw [aau HD.out,HD.out];rfl)
   ·obtain rfl:j=1:=by omega
    by_cases c1:160≤bt s (p+1)∧bt s (p+1)≤191
    ·obtain ⟨c1,c2⟩:=c1
     have c1':160≤((bt s (p+1):Nat):Int):=by omega
     have c2':((bt s (p+1):Nat):Int)≤191:=by omega
     have c3':128≤((bt s (p+1):Nat):Int):=by omega
     have c4':((bt s (p+1):Nat):Int)≤191:=by omega
     go_wp2
     go_roundw
     case rel =>
      refine ⟨trivial,2,by omega,by omega,rfl,?_,fun g=>⟨c1,c2⟩,fun g=>by omega,fun g=>by omega⟩
      rw [HN.out];go_num
     case measure=>simp [intOf]
    ·have HD:Hid (Utf8.decode s p=(65533,1)):=by
      apply dbad s p (by omega)
      ·intro k;obtain ⟨_,_,_,_,_⟩:=k;omega
      ·intro k;obtain ⟨_,_,_,_,_,_,_,_,_⟩:=k;omega
      ·intro k;obtain ⟨_,_,_,_,_,_,_,_,_,_,_⟩:=k;omega
     rcases (show bt s (p+1) < 160∨(160≤bt s (p+1)∧191 < bt s (p+1)) from by omega) with c1|⟨c1,c2⟩
     ·have c1':((bt s (p+1):Nat):Int) < 160:=by omega
      go_wp2
      (refine bodyPost_ret (v:=.agg #[.int .i32 65533,.int .i64 1,.bool true]) (by simp [results,Tryz.results80,go_sem]) rfl ⟨?_,aag _ _ _⟩;rw [aau HD.out,HD.out];rfl)
     ·have c1':160≤((bt s (p+1):Nat):Int):=by omega
      have c2':191 < ((bt s (p+1):Nat):Int):=by omega
      go_wp2
      (refine bodyPost_ret (v:=.agg #[.int .i32 65533,.int .i64 1,.bool true]) (by simp [results,Tryz.results80,go_sem]) rfl ⟨?_,aag _ _ _⟩;rw [aau HD.out,HD.out];rfl)
  ·obtain rfl:j=3:=by omega
   have HE:Hid (Utf8.decode s p=(ad7 s p 16 3,3)):=by
    show Utf8.decode s p=(ad7 s p 16 3,3)
    have l1:=G1.out (by omega)
    have l2:=G2.out (by omega)
    skip
    rw [aef,dec3 _ _ _ _ _ ⟨by omega,by omega,by omega,by omega,by omega,by omega,by omega,by omega,by omega⟩]
    simp only [ad7,Nat.add_zero]
    exact Prod.ext (by simp only [Nat.add_assoc,Nat.reduceAdd];omega) rfl
   go_wp2
   refine bodyPost_ret (v:=.agg #[.int .i32 (ad7 s p 16 3:Nat),.int .i64 3,.bool false]) (by simp [results,Tryz.results80,go_sem]) rfl ⟨?_,aag _ _ _⟩
   rw [ads (by rw [HE.out];simp),HE.out]
   rfl
end
section
open Go.RowKit
theorem one_low (s:ByteArray) (p:Nat) (w:World) (hs:s.size≤16777216) (hp:p < s.size) (h1:bt s p < 128):ab9 s p w:=by
 unfold ab9
 have hbt:=abu s p hp
 have hd:=aej s p h1
 have hb:=ajc s p h1
 have HD:=ke hd;clear hd
 have HB:=ke hb;clear hb
 have i1:((bt s p:Nat):Int) < 128:=by omega
 go_enter Tryz.func80,Tryz.ntmps80
 go_wp2
 refine bodyPost_ret (v:=.agg #[.int .i32 (bt s p:Nat),.int .i64 1,.bool false]) (by simp [results,Tryz.results80,go_sem]) rfl ⟨?_,aag _ _ _⟩
 rw [HB.out,HD.out];rfl
theorem one_none (s:ByteArray) (p:Nat) (w:World) (hs:s.size≤16777216) (hp:p < s.size) (h1:128≤bt s p) (h2:bt s p < 194∨244 < bt s p):ab9 s p w:=by
 unfold ab9
 have hbt:=abu s p hp
 have HD:Hid (Utf8.decode s p=(65533,1)):=by
  apply dbad s p h1
  ·intro k;have:=k.1;have:=k.2.1;omega
  ·intro k;have:=k.1;have:=k.2.1;omega
  ·intro k;have:=k.1;have:=k.2.1;omega
 have i1:128≤((bt s p:Nat):Int):=by omega
 rcases h2 with h2|h2
 ·have i2:((bt s p:Nat):Int) < 194:=by omega
  have i3:((bt s p:Nat):Int) < 224:=by omega
  have i4:((bt s p:Nat):Int) < 240:=by omega
  go_enter Tryz.func80,Tryz.ntmps80
  go_wp2
  refine bodyPost_ret (v:=.agg #[.int .i32 65533,.int .i64 1,.bool true]) (by simp [results,Tryz.results80,go_sem]) rfl ⟨?_,aag _ _ _⟩
  rw [aau HD.out,HD.out];rfl
 ·have i2:194≤((bt s p:Nat):Int):=by omega
  have i3:223 < ((bt s p:Nat):Int):=by omega
  have i4:224≤((bt s p:Nat):Int):=by omega
  have i5:239 < ((bt s p:Nat):Int):=by omega
  have i6:240≤((bt s p:Nat):Int):=by omega
  have i7:244 < ((bt s p:Nat):Int):=by omega
  go_enter Tryz.func80,Tryz.ntmps80
  go_wp2
  refine bodyPost_ret (v:=.agg #[.int .i32 65533,.int .i64 1,.bool true]) (by simp [results,Tryz.results80,go_sem]) rfl ⟨?_,aag _ _ _⟩
  rw [aau HD.out,HD.out];rfl
theorem one_cut (s:ByteArray) (p:Nat) (w:World) (hs:s.size≤16777216) (hp:p < s.size) (h1:(194≤bt s p∧bt s p≤223∧s.size < p+2)∨(224≤bt s p∧bt s p≤239∧s.size < p+3)∨(240≤bt s p∧bt s p≤244∧s.size < p+4)):ab9 s p w:=by
 unfold ab9
 have hbt:=abu s p hp
 have HD:Hid (Utf8.decode s p=(65533,1)):=by
  apply dbad s p (by omega)
  ·intro k;have:=k.1;have:=k.2.1;have:=k.2.2.1;omega
  ·intro k;have:=k.1;have:=k.2.1;have:=k.2.2.1;omega
  ·intro k;have:=k.1;have:=k.2.1;have:=k.2.2.1;omega
 have i0:128≤((bt s p:Nat):Int):=by omega
 have i1:194≤((bt s p:Nat):Int):=by omega
 rcases h1 with ⟨a,b,c⟩|⟨a,b,c⟩|⟨a,b,c⟩
 ·have i2:((bt s p:Nat):Int)≤223:=by omega
  have i3:(s.size:Int) < (p:Int)+2:=by omega
  go_enter Tryz.func80,Tryz.ntmps80
  go_wp2
  refine bodyPost_ret (v:=.agg #[.int .i32 65533,.int .i64 1,.bool true]) (by simp [results,Tryz.results80,go_sem]) rfl ⟨?_,aag _ _ _⟩
  rw [aau HD.out,HD.out];rfl
 ·have i2:223 < ((bt s p:Nat):Int):=by omega
  have i4:224≤((bt s p:Nat):Int):=by omega
  have i5:((bt s p:Nat):Int)≤239:=by omega
  have i3:(s.size:Int) < (p:Int)+3:=by omega
  go_enter Tryz.func80,Tryz.ntmps80
  go_wp2
  all_goals (refine bodyPost_ret (v:=.agg #[.int .i32 65533,.int .i64 1,.bool true]) (by simp [results,Tryz.results80,go_sem]) rfl ⟨?_,aag _ _ _⟩;rw [aau HD.out,HD.out];rfl)
 ·have i2:223 < ((bt s p:Nat):Int):=by omega
  have i4:224≤((bt s p:Nat):Int):=by omega
  have i5:239 < ((bt s p:Nat):Int):=by omega
  have i6:240≤((bt s p:Nat):Int):=by omega
  have i7:((bt s p:Nat):Int)≤244:=by omega
  have i3:(s.size:Int) < (p:Int)+4:=by omega
  go_enter Tryz.func80,Tryz.ntmps80
  go_wp2
  all_goals (refine bodyPost_ret (v:=.agg #[.int .i32 65533,.int .i64 1,.bool true]) (by simp [results,Tryz.results80,go_sem]) rfl ⟨?_,aag _ _ _⟩;rw [aau HD.out,HD.out];rfl)
theorem afi (s:ByteArray) (p:Nat) (w:World) (hs:s.size≤16777216) (hp:p < s.size):ab9 s p w:=by
 by_cases a:bt s p < 128
 ·exact one_low s p w hs hp a
 by_cases b:bt s p < 194∨244 < bt s p
 ·exact one_none s p w hs hp (by omega) b
 by_cases c:(194≤bt s p∧bt s p≤223∧s.size < p+2)∨(224≤bt s p∧bt s p≤239∧s.size < p+3)∨(240≤bt s p∧bt s p≤244∧s.size < p+4)
 ·exact one_cut s p w hs hp c
 by_cases d:bt s p≤223
 ·exact one2 s p w hs hp (by omega) (by omega) (by omega)
 by_cases d:bt s p≤224
 ·exact one3a s p w hs hp (by omega) (by omega) (by omega)
 by_cases d:bt s p≤236
 ·exact one3b s p w hs hp (by omega) (by omega) (by omega)
 by_cases d:bt s p≤237
 ·exact one3c s p w hs hp (by omega) (by omega) (by omega)
 by_cases d:bt s p≤239
 ·exact one3d s p w hs hp (by omega) (by omega) (by omega)
 by_cases d:bt s p≤240
 ·exact one4a s p w hs hp (by omega) (by omega) (by omega)
 by_cases d:bt s p≤243
 ·exact one4b s p w hs hp (by omega) (by omega) (by omega)
 ·exact one4c s p w hs hp (by omega) (by omega) (by omega)
end
section
open Go.RowKit
theorem rbad_any (s:ByteArray) (w:World) (hs:s.size≤16777216):Calls Tryz.prog 44 #[.string s] w fun e w'=>e=.returned (.int .i64 (bad s))∧Below w.heap.size w w':=by
 go_enter Tryz.func44,Tryz.ntmps44
 go_wp2
 go_loopw [3] (fun v wr=>∃ p:Nat,v=.int .i64 p∧p≤s.size∧ad2 s p=bad s∧Below w.heap.size w wr) (fun v wr=>s.size - (intOf v).toNat)
 case atStart=>exact ⟨0,rfl,Nat.zero_le _,rfl,Below.refl _ _⟩
 case round =>
  obtain ⟨p,rfl,hp,hb,hbw⟩:=hrel
  have hsz:=hbw.size
  by_cases hlt:p < s.size
  ·have hw:=adu s p
   have hwl:=af6 s p hlt
   cases hB:af4 s p
   ·have HS:=ke ((ad5 s p hlt hB).symm.trans hb);clear hb
    go_wp2_with (go_at_call 80;refine (afi s p _ hs hlt).mono ?_;rintro e w1 ⟨rfl,hb1⟩)
    have hb2:=(hbw.trans (hb1.mono hsz)).alloc (Nat.le_trans hsz hb1.size) (.cells #[.int .i32 ((Utf8.decode s p).1:Nat),.int .i64 ((Utf8.decode s p).2:Nat),.bool (af4 s p)] 130)
    rw [hB] at hb2
    go_roundw
    case rel=>exact ⟨p+(Utf8.decode s p).2,by go_num,hwl,HS.out,hb2⟩
    case measure=>simp [intOf];omega
   ·have HS:=ke ((aj4 s p hlt hB).symm.trans hb);clear hb
    go_wp2_with (go_at_call 80;refine (afi s p _ hs hlt).mono ?_;rintro e w1 ⟨rfl,hb1⟩)
    have hb2:=(hbw.trans (hb1.mono hsz)).alloc (Nat.le_trans hsz hb1.size) (.cells #[.int .i32 ((Utf8.decode s p).1:Nat),.int .i64 ((Utf8.decode s p).2:Nat),.bool (af4 s p)] 130)
    rw [hB] at hb2
    go_ret
    exact ⟨by rw [← HS.out];rfl,hb2⟩
  ·have HS:=ke (hb.symm.trans (aio s p hlt));clear hb
   go_wp2
   go_ret
   exact ⟨by rw [HS.out];rfl,hbw⟩
end
section
open Go.RowKit
theorem app_list (a b:ByteArray):(a ++ b).data.toList=a.data.toList ++ b.data.toList:=by simp [ByteArray.data_append]
end
section
open Go.RowKit
theorem ajt (s:ByteArray) (ho:(ac5 false (aid s 0)).map encs=none):abf s=[]∧acf s=false:=by
 by_cases h:0≤bad s
 ·exact plain_bad s h
 ·exact plain_of s (by omega) none ho
theorem rp_self (s:ByteArray) (p:Nat) (o:ByteArray) (h:p < s.size) (hB:af4 s p=false) (h34:¬ (Utf8.decode s p).1=34) (h10:¬ (Utf8.decode s p).1=10) (h92:¬ (Utf8.decode s p).1=92)
 (R:ae9 s p false o.data.toList):ae9 s (p+(Utf8.decode s p).2) false (o ++ s.extract p (p+(Utf8.decode s p).2)).data.toList:=by
 have hm:ahe ((Utf8.decode s p).1:Nat) false=true:=by
  have:must ((Utf8.decode s p).1:Nat)=false:=by
   rw [must_cast];simp only [mustN,Bool.or_eq_false_iff,beq_eq_false_iff_ne];omega
  simp [ahe,this]
 have:=ahy s p false _ h hm R
 have e:ajx ((Utf8.decode s p).1:Nat) false=((Utf8.decode s p).1:Nat):=by simp [ajx,hm]
 rw [e,enc_ok s p h hB] at this
 rw [app_list,extract_sub,show p+(Utf8.decode s p).2 - p=(Utf8.decode s p).2 from by omega]
 exact this
theorem rp_none (s:ByteArray) (p:Nat) (o:ByteArray) (h:p < s.size) (hr:(Utf8.decode s p).1=34∨(Utf8.decode s p).1=10) (R:ae9 s p false o.data.toList):abf s=[]∧acf s=false:=by
 apply ajt
 apply ajr s p false _ h _ _ R
 ·have:must ((Utf8.decode s p).1:Nat)=true:=by
   rw [must_cast];rcases hr with e|e<;>rw [e]<;>decide
  simp [ahe,this]
 ·omega
theorem rp_cut (s:ByteArray) (p:Nat) (o:ByteArray) (h:p < s.size) (hr:(Utf8.decode s p).1=92) (hn:¬ p+1 < s.size) (R:ae9 s p false o.data.toList):abf s=[]∧acf s=false:=by
 have h1:=ahf s p (by omega)
 have:=ag7 s p _ h (by omega) R
 rw [h1.2] at this
 exact ajt s (reads_end s (p+1) true _ hn this)
theorem rp_sign (s:ByteArray) (p:Nat) (o:ByteArray) (h:p < s.size) (hr:(Utf8.decode s p).1=92) (hn:p+1 < s.size) (hb:bt s (p+1)=34∨bt s (p+1)=92) (R:ae9 s p false o.data.toList) :
 ae9 s (p+2) false (o ++ s.extract (p+1) (p+2)).data.toList:=by
 have h1:=ahf s p (by omega)
 have R1:=ag7 s p _ h (by omega) R
 rw [h1.2] at R1
 have d:=aej s (p+1) (by omega)
 have hm:ahe ((Utf8.decode s (p+1)).1:Nat) true=true:=by
  rw [d];rcases hb with e|e<;>rw [e]<;>decide
 have R2:=ahy s (p+1) true _ hn hm R1
 have e:ajx ((Utf8.decode s (p+1)).1:Nat) true=((Utf8.decode s (p+1)).1:Nat):=by
  rw [meant_nat _ _ hm,if_neg]
  rw [d];rcases hb with e|e<;>rw [e]<;>decide
 rw [e,enc_ok s (p+1) hn (ajc s (p+1) (by omega)),d] at R2
 rw [app_list,extract_sub,show p+2 - (p+1)=1 from by omega]
 exact R2
theorem rp_n (s:ByteArray) (p:Nat) (o:ByteArray) (h:p < s.size) (hr:(Utf8.decode s p).1=92) (hn:p+1 < s.size) (hb:bt s (p+1)=110) (R:ae9 s p false o.data.toList) :
 ae9 s (p+2) false (o ++ ⟨#[10]⟩).data.toList:=by
 have h1:=ahf s p (by omega)
 have R1:=ag7 s p _ h (by omega) R
 rw [h1.2] at R1
 have d:=aej s (p+1) (by omega)
 have hm:ahe ((Utf8.decode s (p+1)).1:Nat) true=true:=by rw [d,hb];decide
 have R2:=ahy s (p+1) true _ hn hm R1
 have e:ajx ((Utf8.decode s (p+1)).1:Nat) true=((10:Nat):Int):=by
  rw [meant_nat _ _ hm,if_pos]
  rw [d,hb];decide
 have e10:Lib.encodeRune ((10:Nat):Int)=[10]:=by decide
 rw [e,e10,d] at R2
 rw [app_list]
 exact R2
theorem rp_other (s:ByteArray) (p:Nat) (o:ByteArray) (h:p < s.size) (hr:(Utf8.decode s p).1=92) (hn:p+1 < s.size) (h34:¬ bt s (p+1)=34) (h92:¬ bt s (p+1)=92) (h110:¬ bt s (p+1)=110) (R:ae9 s p false o.data.toList) :
 abf s=[]∧acf s=false:=by
 have h1:=ahf s p (by omega)
 have R1:=ag7 s p _ h (by omega) R
 rw [h1.2] at R1
 apply ajt
 apply ajr s (p+1) true _ hn _ (by simp) R1
 have g:∀ k,k < 128→¬ bt s (p+1)=k→((((Utf8.decode s (p+1)).1:Nat):Int) == (k:Int))=false:=by
  intro k hk hne
  rw [beq_eq_false_iff_ne]
  intro e
  have:=ahf s (p+1) (by omega)
  omega
 have a:=g 110 (by omega) h110
 have b:=g 34 (by omega) h34
 have c:=g 92 (by omega) h92
 simp only [ahe,if_true,Bool.or_eq_false_iff]
 exact ⟨a,b,c⟩
theorem rp_bad2 (s:ByteArray) (p:Nat) (h:p < s.size) (hr:(Utf8.decode s p).1=92) (hn:p+1 < s.size) (hb:bt s (p+1) < 128) (hB:ad2 s p=bad s):ad2 s (p+2)=bad s:=by
 have h1:=ahf s p (by omega)
 have d:=aej s (p+1) hb
 have a:=ad5 s p h (ajc s p (by omega))
 have b:=ad5 s (p+1) hn (ajc s (p+1) hb)
 rw [h1.2] at a
 rw [d] at b
 rw [← hB,a,b]
 rfl
theorem rp_end (s:ByteArray) (p:Nat) (o:ByteArray) (h:¬ p < s.size) (hB:ad2 s p=bad s) (R:ae9 s p false o.data.toList):abf s=o.data.toList∧acf s=true:=by
 have e:=reads_end s p false _ h R
 have hb:bad s < 0:=by rw [← hB,aio s p h];omega
 have:=plain_of s hb _ e
 simpa using this
theorem ajp (a b:ByteArray) (x y:Bool) (h1:a=b) (h2:x=y):Ending.returned (.tuple #[.string a,.bool x])=.returned (.tuple #[.string b,.bool y]):=by rw [h1,h2]
theorem ajo (s:ByteArray) (w:World) (hs:s.size≤16777216):Calls Tryz.prog 84 #[.string s] w fun e w'=>e=.returned (.tuple #[.string ⟨(abf s).toArray⟩,.bool (acf s)])∧Below w.heap.size w w':=by
 go_enter Tryz.func84,Tryz.ntmps84
 go_wp2
 go_loopw [4,5] (fun v4 v5 wr=>∃ (p:Nat) (o:ByteArray),v5=.int .i64 p∧v4=.string o∧p≤s.size∧o.size≤p∧ae9 s p false o.data.toList∧ad2 s p=bad s∧Below w.heap.size w wr) (fun v4 v5 wr=>s.size - (intOf v5).toNat)
 case atStart=>exact ⟨0,⟨#[]⟩,rfl,rfl,Nat.zero_le _,Nat.le_refl _,reads_start s,rfl,Below.refl _ _⟩
 case round =>
  obtain ⟨p,o,rfl,rfl,hp,hos,hR,hB,hbw⟩:=hrel
  have hsz:=hbw.size
  have HR:=ke hR;clear hR
  have HB:=ke hB;clear hB
  by_cases hlt:p < s.size
  ·have hw:=adu s p
   have hwl:=af6 s p hlt
   have fin:∀ w1:World,Below wr.heap.size wr w1→Below w.heap.size w (w1.alloc (.cells #[.int .i32 ((Utf8.decode s p).1:Nat),.int .i64 ((Utf8.decode s p).2:Nat),.bool (af4 s p)] 130)) :=
    fun w1 hb1=>(hbw.trans (hb1.mono hsz)).alloc (Nat.le_trans hsz hb1.size) _
   have FIN:=ke fin;clear fin
   cases hbad:af4 s p
   ·rw [hbad] at FIN
    by_cases e34:(Utf8.decode s p).1=34∨(Utf8.decode s p).1=10
    ·have HN:=ke (rp_none s p o hlt e34 HR.out)
     rcases e34 with e34|e34
     ·have b1:((((Utf8.decode s p).1:Nat):Int) == 34)=true:=by rw [beq_iff_eq];omega
      clear e34
      go_wp2_with (go_at_call 80;refine (afi s p _ hs hlt).mono ?_;rintro e w1 ⟨rfl,hb1⟩)
      go_ret2
      exact ⟨ajp _ _ _ _ (by rw [HN.out.1]<;>rfl) (by rw [HN.out.2]<;>rfl),FIN.out w1 hb1⟩
     ·have b1:((((Utf8.decode s p).1:Nat):Int) == 34)=false:=by rw [beq_eq_false_iff_ne];omega
      have b2:((((Utf8.decode s p).1:Nat):Int) == 10)=true:=by rw [beq_iff_eq];omega
      clear e34
      go_wp2_with (go_at_call 80;refine (afi s p _ hs hlt).mono ?_;rintro e w1 ⟨rfl,hb1⟩)
      go_ret2
      exact ⟨ajp _ _ _ _ (by rw [HN.out.1]<;>rfl) (by rw [HN.out.2]<;>rfl),FIN.out w1 hb1⟩
    ·have b1:((((Utf8.decode s p).1:Nat):Int) == 34)=false:=by rw [beq_eq_false_iff_ne];omega
     have b2:((((Utf8.decode s p).1:Nat):Int) == 10)=false:=by rw [beq_eq_false_iff_ne];omega
     by_cases e92:(Utf8.decode s p).1=92
     ·have b3:((((Utf8.decode s p).1:Nat):Int) != 92)=false:=by rw [bne_eq_false_iff_eq];omega
      by_cases hn:p+1 < s.size
      ·have hbt:=abu s (p+1) hn
       have hb256:=ac2 s (p+1)
       have hn':(p:Int)+1 < s.size:=by omega
       have hn2:(p:Int)+2≤s.size:=by omega
       have hn3:((p:Int)+1).toNat=p+1:=by omega
       have hn4:((p:Int)+2).toNat=p+2:=by omega
       have hn5:(p:Int)+1≤(p:Int)+2:=by omega
       have hn6:0≤(p:Int)+1:=by omega
       have hn7:0≤(p:Int)+2:=by omega
       by_cases c110:bt s (p+1)=110
       ·have HR2:=ke (rp_n s p o hlt e92 hn c110 HR.out)
        have HB2:=ke (rp_bad2 s p hlt e92 hn (by omega) HB.out)
        have c1:(((bt s (p+1):Nat):Int) == 34)=false:=by rw [beq_eq_false_iff_ne];omega
        have c2:(((bt s (p+1):Nat):Int) == 92)=false:=by rw [beq_eq_false_iff_ne];omega
        have c3:(((bt s (p+1):Nat):Int) == 110)=true:=by rw [beq_iff_eq];omega
        have z1:(⟨#[10]⟩:ByteArray).size=1:=rfl
        have Z1:=ke z1;clear z1
        clear e92 c110 e34
        go_wp2_with (go_at_call 80;refine (afi s p _ hs hlt).mono ?_;rintro e w1 ⟨rfl,hb1⟩)
        have fin:=FIN.out w1 hb1
        go_roundw
        case rel=>exact ⟨p+2,o ++ ⟨#[10]⟩,by go_num,rfl,by omega,by rw [ByteArray.size_append,Z1.out];omega,HR2.out,HB2.out,fin⟩
        case measure=>simp [intOf];omega
       ·by_cases c34:bt s (p+1)=34
        ·have HR2:=ke (rp_sign s p o hlt e92 hn (Or.inl c34) HR.out)
         have HB2:=ke (rp_bad2 s p hlt e92 hn (by omega) HB.out)
         have c1:(((bt s (p+1):Nat):Int) == 34)=true:=by rw [beq_iff_eq];omega
         clear e92 c110 c34 e34
         go_wp2_with (go_at_call 80;refine (afi s p _ hs hlt).mono ?_;rintro e w1 ⟨rfl,hb1⟩)
         have fin:=FIN.out w1 hb1
         go_roundw
         case rel=>exact ⟨p+2,o ++ s.extract (p+1) (p+2),by go_num,rfl,by omega,by rw [ByteArray.size_append,ByteArray.size_extract];omega,HR2.out,HB2.out,fin⟩
         case measure=>simp [intOf];omega
        ·by_cases c92:bt s (p+1)=92
         ·have HR2:=ke (rp_sign s p o hlt e92 hn (Or.inr c92) HR.out)
          have HB2:=ke (rp_bad2 s p hlt e92 hn (by omega) HB.out)
          have c1:(((bt s (p+1):Nat):Int) == 34)=false:=by rw [beq_eq_false_iff_ne];omega
          have c2:(((bt s (p+1):Nat):Int) == 92)=true:=by rw [beq_iff_eq];omega
          clear e92 c110 c34 c92 e34
          go_wp2_with (go_at_call 80;refine (afi s p _ hs hlt).mono ?_;rintro e w1 ⟨rfl,hb1⟩)
          have fin:=FIN.out w1 hb1
          go_roundw
          case rel=>exact ⟨p+2,o ++ s.extract (p+1) (p+2),by go_num,rfl,by omega,by rw [ByteArray.size_append,ByteArray.size_extract];omega,HR2.out,HB2.out,fin⟩
          case measure=>simp [intOf];omega
         ·have HN:=ke (rp_other s p o hlt e92 hn c34 c92 c110 HR.out)
          have c1:(((bt s (p+1):Nat):Int) == 34)=false:=by rw [beq_eq_false_iff_ne];omega
          have c2:(((bt s (p+1):Nat):Int) == 92)=false:=by rw [beq_eq_false_iff_ne];omega
          have c3:(((bt s (p+1):Nat):Int) == 110)=false:=by rw [beq_eq_false_iff_ne];omega
          clear e92 c110 c34 c92 e34
          go_wp2_with (go_at_call 80;refine (afi s p _ hs hlt).mono ?_;rintro e w1 ⟨rfl,hb1⟩)
          go_ret2
          exact ⟨ajp _ _ _ _ (by rw [HN.out.1]<;>rfl) (by rw [HN.out.2]<;>rfl),FIN.out w1 hb1⟩
      ·have HN:=ke (rp_cut s p o hlt e92 hn HR.out)
       have hn':(s.size:Int)≤(p:Int)+1:=by omega
       clear e92 e34
       go_wp2_with (go_at_call 80;refine (afi s p _ hs hlt).mono ?_;rintro e w1 ⟨rfl,hb1⟩)
       go_ret2
       exact ⟨ajp _ _ _ _ (by rw [HN.out.1]<;>rfl) (by rw [HN.out.2]<;>rfl),FIN.out w1 hb1⟩
     ·have b3:((((Utf8.decode s p).1:Nat):Int) != 92)=true:=by rw [bne_iff_ne];omega
      have HR2:=ke (rp_self s p o hlt hbad (by omega) (by omega) e92 HR.out)
      have h2:0≤(p:Int)+((Utf8.decode s p).2:Nat):=by omega
      have h3:((p:Int)+((Utf8.decode s p).2:Nat)).toNat=p+(Utf8.decode s p).2:=by omega
      have h4:(p:Int)+((Utf8.decode s p).2:Nat)≤s.size:=by omega
      have h5:(p:Int)≤(p:Int)+((Utf8.decode s p).2:Nat):=by omega
      have HB2:=ke ((ad5 s p hlt hbad).symm.trans HB.out)
      clear e92 e34
      go_wp2_with (go_at_call 80;refine (afi s p _ hs hlt).mono ?_;rintro e w1 ⟨rfl,hb1⟩)
      have fin:=FIN.out w1 hb1
      go_roundw
      case rel=>exact ⟨p+(Utf8.decode s p).2,o ++ s.extract p (p+(Utf8.decode s p).2),by go_num,rfl,hwl,by rw [ByteArray.size_append,ByteArray.size_extract];omega,HR2.out,HB2.out,fin⟩
      case measure=>simp [intOf];omega
   ·rw [hbad] at FIN
    have HN:=ke (plain_bad s (by rw [← HB.out,aj4 s p hlt hbad];omega))
    go_wp2_with (go_at_call 80;refine (afi s p _ hs hlt).mono ?_;rintro e w1 ⟨rfl,hb1⟩)
    go_ret2
    exact ⟨ajp _ _ _ _ (by rw [HN.out.1]<;>rfl) (by rw [HN.out.2]<;>rfl),FIN.out w1 hb1⟩
  ·have HN:=ke (rp_end s p o hlt HB.out HR.out)
   go_wp2
   go_ret2
   exact ⟨ajp _ _ _ _ (by rw [HN.out.1]<;>rfl) (by rw [HN.out.2]<;>rfl),hbw⟩
end
section
open Go.RowKit
theorem aa0 (b:Nat) (hb:b < 256) (w:World):Calls Tryz.prog 82 #[.int .u8 (b:Nat)] w fun e w'=>e=.returned (.bool (aa1 (b:Nat)))∧w=w':=by
 have e:aa1 (b:Int)=(adm b || (big b || aa7 b)):=rfl
 rw [e];clear e
 have hb':(b:Int) < 256:=by omega
 go_enter Tryz.func82,Tryz.ntmps82
 cases h1:adm b
 ·cases h2:big b
  all_goals
   go_wp2_with (first|(go_at_call 94;refine (agc _ _).mono ?_;rintro e w' ⟨rfl,rfl⟩)|(go_at_call 93;refine (aiv _ _).mono ?_;rintro e w' ⟨rfl,rfl⟩)|(go_at_call 81;refine (aax _ _).mono ?_;rintro e w' ⟨rfl,rfl⟩))
   go_ret
   exact ⟨by simp,rfl⟩
 ·go_wp2_with (first|(go_at_call 94;refine (agc _ _).mono ?_;rintro e w' ⟨rfl,rfl⟩)|(go_at_call 93;refine (aiv _ _).mono ?_;rintro e w' ⟨rfl,rfl⟩)|(go_at_call 81;refine (aax _ _).mono ?_;rintro e w' ⟨rfl,rfl⟩))
  go_ret
  exact ⟨by simp,rfl⟩
def adp (l:List UInt8):Nat:=if 0 < aav l∧acf (ag1 l (aav l))=true then aav l else 0
theorem ahx (l:List UInt8) (h:aav l=0):adp l=0:=by unfold adp;rw [if_neg (by omega)]
theorem tl_step (s:ByteArray) (k n:Nat) (h:k < s.size) (h1:bt s k≠10) (h2:bt s k≠92) (h3:bt s k≠34):ab3 false (s.data.toList.drop k) n=ab3 false (s.data.toList.drop (k+1)) (n+1):=by
 obtain ⟨b,hx,hn,_⟩:=ad1 s k h
 rw [hx,ab3,if_neg (by omega),if_neg (by simp),if_neg (by omega),if_neg (by omega)]
theorem tl_back (s:ByteArray) (k n:Nat) (h:k < s.size) (h2:bt s k=92):ab3 false (s.data.toList.drop k) n=ab3 true (s.data.toList.drop (k+1)) (n+1):=by
 obtain ⟨b,hx,hn,_⟩:=ad1 s k h
 rw [hx,ab3,if_neg (by omega),if_neg (by simp),if_pos (by omega)]
theorem tl_esc (s:ByteArray) (k n:Nat) (h:k < s.size) (h1:bt s k≠10):ab3 true (s.data.toList.drop k) n=ab3 false (s.data.toList.drop (k+1)) (n+1):=by
 obtain ⟨b,hx,hn,_⟩:=ad1 s k h
 rw [hx,ab3,if_neg (by omega),if_pos rfl]
theorem tl_quote (s:ByteArray) (k n:Nat) (h:k < s.size) (h1:bt s k=34):ab3 false (s.data.toList.drop k) n=n+1:=by
 obtain ⟨b,hx,hn,_⟩:=ad1 s k h
 rw [hx,ab3,if_neg (by omega),if_neg (by simp),if_neg (by omega),if_pos (by omega)]
theorem text_at (s:ByteArray) (p:Nat) (h:p < s.size) (hb:bt s p=34):aav (s.data.toList.drop p)=ab3 false (s.data.toList.drop (p+1)) 1:=by
 obtain ⟨b,hx,hn,_⟩:=ad1 s p h
 rw [hx,aav,if_pos (by omega)]
theorem inner_at (s:ByteArray) (p k:Nat) (h:p < k) (hk:k < s.size):s.extract (p+1) k=ag1 (s.data.toList.drop p) (k - p+1):=by
 apply ba_is
 rw [ac7,show k - p+1 - 1=k - p from by omega,List.drop_take,List.drop_drop,show k - p - 1=k - (p+1) from by omega]
theorem rtext_any (s:ByteArray) (p:Nat) (w:World) (hs:s.size≤1048576) (hp:p < s.size) (h34:bt s p=34):Calls Tryz.prog 83 #[.string s,.int .i64 (p:Nat)] w fun e w'=>e=.returned (.int .i64 (adp (s.data.toList.drop p):Nat))∧Below w.heap.size w w':=by
 obtain ⟨n,hn⟩:∃ n,n=aav (s.data.toList.drop p):=⟨_,rfl⟩
 have HN:=ke (hn.trans (text_at s p hp h34))
 have HR:=ke hn
 clear hn h34
 go_enter Tryz.func83,Tryz.ntmps83
 go_wp2
 go_loop [5] (fun v=>∃ k:Nat,v=.int .i64 k∧p < k∧k≤s.size∧n=ab3 false (s.data.toList.drop k) (k - p)) (fun v=>s.size - (intOf v).toNat)
 case atStart=>exact ⟨p+1,by go_num,by omega,by omega,by rw [HN.out,show p+1 - p=1 from by omega]⟩
 case round =>
  obtain ⟨k,rfl,hpk,hk,hb⟩:=hrel
  have HB:=ke hb;clear hb
  by_cases hlt:k < s.size
  ·have hbt:=abu s k hlt
   have h256:=ac2 s k
   by_cases h34:bt s k=34
   ·have b1:(((bt s k:Nat):Int) == 34)=true:=by rw [beq_iff_eq];omega
    have b2:(((bt s k:Nat):Int) != 34)=false:=by rw [bne_eq_false_iff_eq];omega
    have hnk:n=k - p+1:=by rw [HB.out,tl_quote s k _ hlt h34]
    have hin:=inner_at s p k hpk hlt
    have hrt:adp (s.data.toList.drop p)=if acf (s.extract (p+1) k)=true then k+1 - p else 0:=by
     unfold adp
     rw [← HR.out,hin,hnk]
     by_cases g:acf (ag1 (s.data.toList.drop p) (k - p+1))=true
     ·rw [if_pos ⟨by omega,g⟩,if_pos g];omega
     ·rw [if_neg (fun h=>g h.2),if_neg g]
    obtain ⟨t,ht⟩:∃ t:ByteArray,t=⟨(abf (s.extract (p+1) k)).toArray⟩:=⟨_,rfl⟩
    have hsl:∀ w:World,(Instr.slice 9 (.string s) (some (.int .i64 ((p:Int)+1))) (some (.int .i64 (k:Int))) none).run Tryz.prog w=.ok (.string (s.extract (p+1) k)) w:=by
     intro w
     have:=run_slice_string (P:=Tryz.prog) (w:=w) 9 s .i64 .i64 ((p:Int)+1) (k:Int) Tryz.underlying9 (by omega) (by omega) (by omega)
     rw [show ((p:Int)+1).toNat=p+1 from by omega,Int.toNat_natCast] at this
     exact this
    cases hpo:acf (s.extract (p+1) k)
    ·have HP:Hid (∀ w,Calls Tryz.prog 84 #[.string (s.extract (p+1) k)] w fun e w'=>e=.returned (.tuple #[.string t,.bool false])∧Below w.heap.size w w'):=by
      show ∀ w,_
      intro w;have:=ajo (s.extract (p+1) k) w (by simp;omega);rw [hpo,← ht] at this;exact this
     rw [hpo,if_neg (by simp)] at hrt
     have HRT:=ke hrt
     clear hrt hnk hin h34 ht hpo HR HN
     go_wp2_with (go_at_call 84;refine (HP.out _).mono ?_;clear HP;rintro e w1 ⟨rfl,hb1⟩)
     go_ret
     exact ⟨by rw [HRT.out];rfl,hb1⟩
    ·have HP:Hid (∀ w,Calls Tryz.prog 84 #[.string (s.extract (p+1) k)] w fun e w'=>e=.returned (.tuple #[.string t,.bool true])∧Below w.heap.size w w'):=by
      show ∀ w,_
      intro w;have:=ajo (s.extract (p+1) k) w (by simp;omega);rw [hpo,← ht] at this;exact this
     rw [hpo,if_pos rfl] at hrt
     have HRT:=ke hrt
     clear hrt hnk hin h34 ht hpo HR HN
     go_wp2_with (go_at_call 84;refine (HP.out _).mono ?_;clear HP;rintro e w1 ⟨rfl,hb1⟩)
     go_ret
     exact ⟨by rw [HRT.out];exact congrArg Ending.returned (by go_num),hb1⟩
   ·have b1:(((bt s k:Nat):Int) != 34)=true:=by rw [bne_iff_ne];omega
    by_cases h10:bt s k=10
    ·have b2:(((bt s k:Nat):Int) != 10)=false:=by rw [bne_eq_false_iff_eq];omega
     have hz:adp (s.data.toList.drop p)=0:=ahx _ (by rw [← HR.out,HB.out];exact tlen_line s false k _ hlt h10)
     have HZ:=ke hz;clear hz h34 h10
     go_wp2
     go_ret
     exact ⟨by rw [HZ.out];rfl,Below.refl _ _⟩
    ·have b2:(((bt s k:Nat):Int) != 10)=true:=by rw [bne_iff_ne];omega
     by_cases h92:bt s k=92
     ·have b3:(((bt s k:Nat):Int) == 92)=true:=by rw [beq_iff_eq];omega
      have hst:=HB.out.trans (tl_back s k _ hlt h92)
      by_cases hlt2:k+1 < s.size
      ·have hbt2:=abu s (k+1) hlt2
       have h2562:=ac2 s (k+1)
       have i1:(k:Int)+1 < s.size:=by omega
       have i2:((k:Int)+1).toNat=k+1:=by omega
       have i3:0≤(k:Int)+1:=by omega
       by_cases h102:bt s (k+1)=10
       ·have b4:(((bt s (k+1):Nat):Int) == 10)=true:=by rw [beq_iff_eq];omega
        have hz:adp (s.data.toList.drop p)=0:=ahx _ (by rw [← HR.out,hst];exact tlen_line s true (k+1) _ hlt2 h102)
        have HZ:=ke hz;clear hz h34 h10 h92 h102 hst
        go_wp2
        go_ret
        exact ⟨by rw [HZ.out];rfl,Below.refl _ _⟩
       ·have b4:(((bt s (k+1):Nat):Int) == 10)=false:=by rw [beq_eq_false_iff_ne];omega
        have HS:=ke (show n=ab3 false (s.data.toList.drop (k+2)) (k+2 - p) by rw [hst,tl_esc s (k+1) _ hlt2 h102,show k - p+1+1=k+2 - p from by omega])
        clear h34 h10 h92 h102 hst
        go_wp2
        go_round
        case rel=>exact ⟨k+2,by go_num,by omega,by omega,HS.out⟩
        case measure=>simp [intOf];omega
      ·have i1:(s.size:Int)≤(k:Int)+1:=by omega
       have hz:adp (s.data.toList.drop p)=0:=ahx _ (by rw [← HR.out,hst];exact tlen_end s true (k+1) _ hlt2)
       have HZ:=ke hz;clear hz h34 h10 h92 hst
       go_wp2
       go_ret
       exact ⟨by rw [HZ.out];rfl,Below.refl _ _⟩
     ·have b3:(((bt s k:Nat):Int) == 92)=false:=by rw [beq_eq_false_iff_ne];omega
      have HS:=ke (show n=ab3 false (s.data.toList.drop (k+1)) (k+1 - p) by rw [HB.out,tl_step s k _ hlt h10 h92 h34,show k - p+1=k+1 - p from by omega])
      clear h34 h10 h92
      go_wp2
      go_round
      case rel=>exact ⟨k+1,by go_num,by omega,by omega,HS.out⟩
      case measure=>simp [intOf];omega
  ·have hz:adp (s.data.toList.drop p)=0:=ahx _ (by rw [← HR.out,HB.out];exact tlen_end s false k _ hlt)
   have HZ:=ke hz;clear hz
   go_wp2
   go_ret
   exact ⟨by rw [HZ.out];rfl,Below.refl _ _⟩
end
end Go.Proofs.YtddnnohfbagbnaaGreatDoor
