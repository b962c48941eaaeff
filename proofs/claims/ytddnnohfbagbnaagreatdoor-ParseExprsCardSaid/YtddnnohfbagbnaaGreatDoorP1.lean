/- Parts of the proof: BareN, CopyP, BareO, BareQ, App, SameB, RefC3. -/
import Derived.Test.YtddnnohfbagbnaaGreatDoorHi
import Derived.Test.YtddnnohfbagbnaaGreatDoorP0
import Derived.Deep.AppendLies
import Derived.Test.YtddnnohfbagbnaaGreatDoorP6
import Derived.Laws.AppendOwnNone
import Derived.Test.YtddnnohfbagbnaaGreatDoorP14
set_option maxHeartbeats 2000000
set_option maxRecDepth 100000
namespace Go.Proofs.YtddnnohfbagbnaaGreatDoor
set_option linter.unusedSimpArgs false
set_option linter.unusedVariables false
section
open Go.RowKit
mutual
def aaq:Nd→Nd
 | .ex k n tx nm ty _ l _ _=>.ex k n tx nm ty (.slice none 0 0) (aai l) ⟨#[]⟩ 0
 | .st k n ty nm _ _ _ _ e a b c _=>.st k n ty nm (.slice none 0 0) (.slice none 0 0) (.slice none 0 0) (.slice none 0 0) (aai e) (aai a) (aai b) (aai c) 0
 | .fd s ty nm _ l=>.fd s ty nm (.slice none 0 0) (aai l)
 | .mt s c ty nm _ ps _ l=>.mt s c ty nm (.slice none 0 0) ps (.slice none 0 0) (aai l)
 | .cl nm sp _ _ f m=>.cl nm sp (.slice none 0 0) (.slice none 0 0) (aai f) (aai m)
def aai:List Nd→List Nd
 | []=>[]
 | x :: l=>aaq x :: aai l
end
theorem ahn (l:List Nd):aai l=l.map aaq:=by
 induction l with
 | nil=>rfl
 | cons x l ih=>simp [aai,ih]
theorem tag_bare (x:Nd):(aaq x).tag=x.tag:=by cases x<;>rfl
theorem add_off (b o j:Nat):(⟨b,o,none⟩:Addr).add j=⟨b,o+j,none⟩:=by unfold Addr.add;split<;>simp_all
theorem ah7 {t:Tg}:∀ (l:List Nd) (i j:Nat) (x:Nd),(∀ y ∈ l,y.tag=t)→l[i]?=some x→j < t.sz→(l.flatMap aab)[i * t.sz+j]?=(aab x)[j]?
 | [],i,j,x,_,h,_=>by simp at h
 | y :: l,0,j,x,ht,h,hj=>by
  simp at h;subst h
  rw [List.flatMap_cons,Nat.zero_mul,Nat.zero_add,List.getElem?_append_left (by rw [acs,ht y (by simp)];exact hj)]
 | y :: l,i+1,j,x,ht,h,hj=>by
  have ih:=ah7 l i j x (fun z hz=>ht z (by simp [hz])) (by simpa using h) hj
  have hy:(aab y).length=t.sz:=by rw [acs,ht y (by simp)]
  rw [List.flatMap_cons,List.getElem?_append_right (by rw [hy,Nat.add_mul];omega),hy,← ih]
  congr 1;rw [Nat.add_mul];omega
theorem aac (w:World) (g o:Nat) (u:Value):w.grownBy (w.setCell ⟨g,o,none⟩ u) (some g) :=
 ⟨rfl,rfl,rfl,by simp,fun k hk hne=>Below.heap_setCell w _ u k (fun e=>hne (by rw [e]))⟩
theorem ags {w:World} {B n:Nat} {e:TypeId} {v:Value} {xs:List Value} {sz:Nat} (h:w.ownsRow B e sz v n xs) (hn:0 < n):∃ g cap,v=.slice (some ⟨g,0,none⟩) n cap∧B≤g∧g < w.heap.size∧∀ k u,xs[k]?=some u→w.cell? ⟨g,k,none⟩=some u∧w.frozen? ⟨g,k,none⟩=false:=by
 obtain ⟨g,cap,rfl,hb,hl⟩:=h.form hn
 refine ⟨g,cap,rfl,hb,hl,fun k u hu=>⟨?_,h.frozenAt k⟩⟩
 have hc:=h.cells (g:=g) rfl k u hu
 rw [add_off] at hc
 simpa using hc
theorem aak {P:Program} {c:Code} {Q:Exit→Act→World→Prop} {a:Act} {W0:World} (F:World→Prop) (h0:F W0) (h:∀ W,F W→Code.wp P c Q a W):Code.wp P c Q a W0:=h W0 h0
theorem aez (l:List Nd):(aai l).length=l.length:=by rw [ahn];simp
theorem aap (a b:List Nd):aai (a ++ b)=aai a ++ aai b:=by simp [ahn]
theorem kids_bare (x:Nd):(aaq x).kids=aai x.kids:=by cases x<;>simp [aaq,Nd.kids,aap]
end
section
open Go.RowKit
def FkL (B:Nat) (w:World) (t:Tg) (v:Value) (l:List Nd):Prop :=
 ∀ ws,(∀ k j u,B≤k→w.cell? ⟨k,j,none⟩=some u→ws.cell? ⟨k,j,none⟩=some u)→Rw ws t v l∧KdL ws l
theorem FkL.now {B:Nat} {w:World} {t:Tg} {v:Value} {l:List Nd} (h:FkL B w t v l):Rw w t v l∧KdL w l:=h w fun _ _ _ _ h=>h
theorem FkL.mono {B C:Nat} {w:World} {t:Tg} {v:Value} {l:List Nd} (h:FkL B w t v l) (hB:C≤B):FkL C w t v l:=fun ws hs=>h ws fun k j u hk hu=>hs k j u (Nat.le_trans hB hk) hu
theorem FkL.next {B:Nat} {w w':World} {t:Tg} {v:Value} {l:List Nd} (h:FkL B w t v l) (hk:∀ k j u,B≤k→w.cell? ⟨k,j,none⟩=some u→w'.cell? ⟨k,j,none⟩=some u):FkL B w' t v l :=
 fun ws hs=>h ws fun k j u hB hu=>hs k j u hB (hk k j u hB hu)
theorem FkL.keep {B:Nat} {w w':World} {t:Tg} {v:Value} {l:List Nd} (h:FkL B w t v l) (K:Keep w w'):FkL B w' t v l:=h.next fun k j u _ hu=>K _ _ hu
theorem FkL.below {B:Nat} {w w':World} {t:Tg} {v:Value} {l:List Nd} (h:FkL B w t v l) (hb:Below w.heap.size w w'):FkL B w' t v l:=h.keep (Keep.below hb)
theorem FkL.set {B c:Nat} {w:World} {t:Tg} {v:Value} {l:List Nd} (h:FkL B w t v l) (hc:c < B) (j:Nat) (u:Value):FkL B (w.setCell ⟨c,j,none⟩ u) t v l :=
 h.next fun k i x hB hu=>by rw [World.cell?_setCell_other _ _ _ _ (by simp<;>omega)];exact hu
theorem FkL.nil (B:Nat) (w:World) (t:Tg):FkL B w t (.slice none 0 0) []:=fun ws _=>⟨⟨none,0,rfl,by unfold maxLen;simp,by simp,fun h=>by simp at h⟩,trivial⟩
def KO (B:Nat) (r:Option Nat) (w:World) (l:List Nd):Prop :=
 ∀ ws,(∀ k j u,B≤k→some k≠r→w.cell? ⟨k,j,none⟩=some u→ws.cell? ⟨k,j,none⟩=some u)→KdL ws l
theorem KO.nil (B:Nat) (r:Option Nat) (w:World):KO B r w []:=fun _ _=>trivial
theorem agz {B:Nat} {w:World} {t:Tg} {v:Value} {l:List Nd} (h:FkL B w t v l):∃ A cap,v=.slice A l.length cap:=h.now.1.form
theorem adw {a b:List Nd} (h:aai a=aai b):a.length=b.length:=by rw [← aez a,h,aez]
theorem new_at (w:World) (cs:List Value) (T:TypeId):∀ (j:Nat) (u:Value),cs[j]?=some u→(w.alloc (.cells cs.toArray T)).cell? ((⟨w.heap.size,0,none⟩:Addr).add j)=some u:=by
 intro j u hj
 have hx:Bx (w.alloc (.cells cs.toArray T)) w.heap.size cs.toArray T:=Bx.new w _ T
 rw [add_off,Nat.zero_add]
 exact (hx.cell j).trans (by simpa using hj)
end
section
open Go.RowKit
theorem af8:∀ (n:Nat) (a:List Nd),aal a≤n→aal (aai a)=aal a
 | _,[],_=>rfl
 | 0,x :: a,h=>by have:=ac8 x;simp [aal] at h;omega
 | n+1,x :: a,h=>by
  simp only [aal] at h
  have h1:=ad9 x
  have h2:=ad9 (aaq x)
  rw [kids_bare,af8 n x.kids (by omega)] at h2
  simp only [aai,aal]
  rw [af8 n a (by have:=ac8 x;omega)];omega
theorem ada {a b:List Nd} (h:aai a=aai b):aal a=aal b:=by
 rw [← af8 (aal a) a (Nat.le_refl _),← af8 (aal b) b (Nat.le_refl _),h]
end
section
theorem kind_bare (x:Nd):(aaq x).kind=x.kind:=by cases x<;>rfl
theorem sup_bare (l:List Nd):adj (aai l)=adj l:=by
 unfold adj
 rw [ahn,List.any_map]
 congr 1;funext x;simp [kind_bare]
theorem head_bare (l:List Nd):headK (aai l)=headK l:=by
 cases l with
 | nil=>rfl
 | cons x l=>simp [aai,headK,kind_bare]
theorem tail_bare (l:List Nd):(aai l).tail=aai l.tail:=by cases l<;>rfl
theorem fits_bare (x:Nd):ad0 (aaq x)=ad0 x:=by
 cases x with
 | ex k n tx nm ty v l own nth=>simp [aaq,ad0,aez]
 | st k n ty nm ve va vb vc e a b c nth=>simp [aaq,ad0,fitS,exprsS,aj3,aez,sup_bare,head_bare]
 | fd s ty nm v l=>simp [aaq,ad0,aez]
 | mt s c ty nm vp ps v l=>simp [aaq,ad0,fitM,sup_bare,tail_bare]
 | cl nm sp vf vm f m=>simp [aaq,ad0,aez]
theorem step_bare (x y:Nd):aic (aaq x) (aaq y)=aic x y:=by unfold aic;rw [tag_bare,tag_bare]
theorem okT_bare:∀ (n:Nat) (x:Nd) (d:Nat),x.size≤n→okT (aaq x) d=okT x d
 | 0,x,d,h=>by have:=ac8 x;omega
 | n+1,x,d,h=>by
  have h1:=ad9 x
  rw [okT_eq,okT_eq x,fits_bare,kids_bare]
  have:((aai x.kids).all fun y=>okT y (d+aic (aaq x) y))=(x.kids.all fun y=>okT y (d+aic x y)):=by
   rw [ahn,List.all_map,Bool.eq_iff_iff,List.all_eq_true,List.all_eq_true]
   constructor
   ·intro g y hy
    have:=g y hy
    simp only [Function.comp_apply] at this
    rw [step_bare,okT_bare n y _ (by have:=agn hy;omega)] at this;exact this
   ·intro g y hy
    simp only [Function.comp_apply]
    rw [step_bare,okT_bare n y _ (by have:=agn hy;omega)];exact g y hy
  rw [this]
theorem mayB_bare (l:List Nd):mayB (aai l)=mayB l:=by
 unfold mayB
 rw [aez,af8 _ l (Nat.le_refl _)]
 congr 2
 rw [ahn,List.all_map]
 congr 1;funext x
 exact okT_bare _ x 0 (Nat.le_refl _)
theorem mayB_of_bare {a b:List Nd} (h:aai a=aai b):mayB a=mayB b:=by rw [← mayB_bare a,← mayB_bare b,h]
end
section
open Go.RowKit
theorem acw {P:Program} {w:World} {ops:Array Oper} {rest:List Oper} {o:Oper} {a:Act} {Q:Exit→Act→World→Prop} (hgd:o.guard=none) (s x:Operand) (t:TypeId)
  (ho:o.op=.call { callee:=.builtin .append,args:=#[s,x],argTypes:=#[t,t] })
  (base:Nat) (e:TypeId) (i:TypeInfo) (z:Value) (size bytes:Nat) (ht:P.underlying t=some (.slice e)) (hi:P.info? e=some i) (hz:i.zero=some z)
  (hsize:i.size=size) (hby:i.bytes=bytes) (hzs:z.cells.size=size) (hsz:0 < size)
  (v:Value) (n:Nat) (xs:List Value) (hs:a.eval s=v) (hown:w.ownsRow base e size v n xs)
  (B2:Nat) (v2:Value) (m:Nat) (news:List Value) (hx:a.eval x=v2) (hown2:w.ownsRow B2 e size v2 m news) (h1:∀ u ∈ news,u.oneCell'=true)
  (h63:n+m≤maxLen) (hbytes:(n+m) * bytes≤140737488355328) (hbase:base≤w.heap.size)
  (h:∀ v' w',w'.ownsRow base e size v' (n+m) (xs ++ news)→w.grownBy w' v.ownBlock→(v'.ownBlock=v.ownBlock∨v'.ownBlock=some w.heap.size)→wpList P ops Q rest (a.put o.dst v') w') :
  wpList P ops Q (o :: rest) a w:=by
 have ho2:=hown2
 rcases hown2 with ⟨hl,⟨rfl,rfl⟩|⟨g,cap,cur,rfl,_⟩⟩
 ·have hn:news=[]:=by simpa using hl
  subst hn
  refine wpList_append_own_none hgd s x t ho base e i size ht hi v n xs hs hown hx ?_
  exact h v w (by simpa using hown) (ah5 w _) (.inl rfl)
 ·refine wpList_append_own_at w hgd s x t ho base e i z size bytes ht hi hz hsize hby hzs hsz v n xs hs hown ⟨g,0,none⟩ m cap news hx hl (fun j u hj=>ho2.cells (g:=g) rfl j u hj) h1 h63 hbytes hbase ?_
  intro v' w' a b _ c
  exact h v' w' a b c
def EX (x:Nd):Prop:=∃ (k n:Int) (tx nm ty:ByteArray) (A:Option Addr) (len cap:Nat) (l:List Nd),x=.ex k n tx nm ty (.slice A len cap) l ⟨#[]⟩ 0
theorem ai7 {es:List Nd} (h:∀ y ∈ es,EX y):∀ u ∈ es.flatMap aab,u.oneCell'=true:=by
 intro u hu
 rw [List.mem_flatMap] at hu
 obtain ⟨x,hx,hu⟩:=hu
 obtain ⟨k,n,tx,nm,ty,A,len,cap,l,rfl⟩:=h x hx
 simp only [aab,List.mem_cons,List.not_mem_nil,or_false] at hu
 rcases hu with rfl|rfl|rfl|rfl|rfl|rfl|rfl|rfl<;>rfl
theorem Tryz.infoEx:(Tryz.prog.info? 35).map (fun i=>(i.zero,i.size,i.bytes))=some (some (.agg #[.int .i64 0,.int .i32 0,.string ⟨#[]⟩,.string ⟨#[]⟩,.string ⟨#[]⟩,.slice none 0 0,.string ⟨#[]⟩,.int .i64 0]),8,112):=by kernel_rfl
theorem aiw {w:World} {base base' e sz n:Nat} {v:Value} {xs:List Value} (h:w.ownsRow base e sz v n xs) (hb:base'≤base):w.ownsRow base' e sz v n xs :=
 ⟨h.1,h.2.imp id fun ⟨g,cap,cur,a,b,c⟩=>⟨g,cap,cur,a,Nat.le_trans hb b,c⟩⟩
end
section
open Go.RowKit
theorem alike_bare (x y:Nd):ajd (aaq x) (aaq y)=ajd x y:=by
 cases x<;>cases y<;>simp [aaq,ajd,aez]
theorem ahv:∀ (n:Nat) (a b:List Nd),aal a≤n→acx (aai a) (aai b)=acx a b
 | 0,[],[],_=>rfl
 | 0,[],y :: b,_=>by simp [aai,acx]
 | 0,x :: a,b,h=>by have:=ac8 x;simp [aal] at h;omega
 | n+1,[],[],_=>rfl
 | n+1,[],y :: b,_=>by simp [aai,acx]
 | n+1,x :: a,[],_=>by simp [aai,acx]
 | n+1,x :: a,y :: b,h=>by
  simp only [aai,aga,alike_bare,kids_bare]
  simp only [aal] at h
  have h1:=ad9 x
  rw [ahv n x.kids y.kids (by omega),ahv n a b (by have:=ac8 x;omega)]
theorem sameL_of_bare {a b c:List Nd} (h:aai a=aai b):acx a c=acx b c:=by
 rw [← ahv (aal a) a c (Nat.le_refl _),← ahv (aal b) b c (Nat.le_refl _),h]
theorem alike_refl (x:Nd):ajd x x=true:=by
 cases x<;>simp [ajd]
 case mt s c ty nm vp ps v l =>
  induction ps with
  | nil=>rfl
  | cons p ps ih=>simp [psB,prmB,ih]
theorem ajm:∀ (n:Nat) (a:List Nd),aal a≤n→acx a a=true
 | _,[],_=>sameL_nil
 | 0,x :: a,h=>by have:=ac8 x;simp [aal] at h;omega
 | n+1,x :: a,h=>by
  simp only [aal] at h
  have h1:=ad9 x
  rw [aga,alike_refl,ajm n x.kids (by omega),ajm n a (by have:=ac8 x;omega)];rfl
theorem same_two {x y z:Nd} (hx:aaq x=aaq z) (hy:aaq y=aaq z):acx [x] [y]=true:=by
 have h1:aai [x]=aai [y]:=by simp only [aai];rw [hx,hy]
 rw [sameL_of_bare h1]
 exact ajm _ _ (Nat.le_refl _)
end
section
open Go.RowKit
theorem one3d (s:ByteArray) (p:Nat) (w:World) (hs:s.size≤16777216) (hp:p < s.size) (h1:238≤bt s p) (h2:bt s p≤239) (hn:p+3≤s.size):ab9 s p w:=by
 unfold ab9
 have hbt:=abu s p hp
 have hpn:(p:Int)+3≤s.size:=by omega
 have i0:128≤((bt s p:Nat):Int):=by omega
 have i1:194≤((bt s p:Nat):Int):=by omega
 have i2:223 < ((bt s p:Nat):Int):=by omega
 have i3:224≤((bt s p:Nat):Int):=by omega
 have i4:((bt s p:Nat):Int)≤239:=by omega
 have q224:(((bt s p:Nat):Int) == 224)=false:=by rw [beq_eq_false_iff_ne];omega
 have q237:(((bt s p:Nat):Int) == 237)=false:=by rw [beq_eq_false_iff_ne];omega
 have hand:=ai5 (bt s p) (by omega) (by omega)
 go_enter Tryz.func80,Tryz.ntmps80
 go_wp2
 go_loopw [9,10] (fun r k w1=>w1=w.alloc (.cells #[.int .i32 0,.int .i64 0,.bool false] 130)∧∃ j:Nat,1≤j∧j≤3∧k=.int .i64 j∧r=.int .i32 (ad7 s p 16 j:Nat)∧(2≤j→128≤bt s (p+1)∧bt s (p+1)≤191)∧(3≤j→128≤bt s (p+2)∧bt s (p+2)≤191)∧(4≤j→128≤bt s (p+3)∧bt s (p+3)≤191)) (fun r k w1=>3 - (intOf k).toNat)
 case atStart=>exact ⟨rfl,1,by omega,by omega,rfl,by simp [ad7],fun h=>by omega,fun h=>by omega,fun h=>by omega⟩
 case round =>
  obtain ⟨rfl,j,hj1,hj2,rfl,rfl,g1,g2,g3⟩:=hrel
  have G1:=ke g1;clear g1
  have G2:=ke g2;clear g2
  have G3:=ke g3;clear g3
  clear hand hbt
  by_cases hlt:j < 3
  ·have hpj:p+j < s.size:=by omega
   have hbt:=abu s (p+j) hpj
   have hb256:=ac2 s (p+j)
   have hand:=aew (bt s (p+j)) (by omega) (by omega)
   have hacc:=ahp s p 16 (by omega) (by omega) j (by omega)
   have hj64:(j:Int) < 3:=by omega
   have HN:=ke (ae1 s p 16 j hj1)
   rcases Nat.lt_or_ge 1 j with hj|hj
   ·have hjb:((j:Int) == 1)=false:=by rw [beq_eq_false_iff_ne];omega
    by_cases c1:128≤bt s (p+j)∧bt s (p+j)≤191
    ·obtain ⟨c1,c2⟩:=c1
     have c1':128≤((bt s (p+j):Nat):Int):=by omega
     have c2':((bt s (p+j):Nat):Int)≤191:=by omega
     go_wp2
     go_roundw
     case rel =>
      refine ⟨trivial,j+1,by omega,by omega,by go_num,?_,fun g=>G1.out (by omega),fun g=>?_,fun g=>?_⟩
      ·rw [HN.out];go_num
      ·by_cases e:j=2
       ·subst e;exact ⟨c1,c2⟩
       ·exact G2.out (by omega)
      ·by_cases e:j=3
       ·subst e;exact ⟨c1,c2⟩
       ·exact G3.out (by omega)
     case measure=>simp [intOf];omega
    ·have HD:Hid (Utf8.decode s p=(65533,1)):=by
      apply dbad s p (by omega)
      ·intro k;have:=k.2.1;omega
      ·intro k;obtain ⟨_,_,_,_,_,_,_,_,_⟩:=k
       have e:j=2:=by omega
       subst e;omega
      ·intro k;obtain ⟨_,_,_,_,_,_,_,_,_,_,_⟩:=k
       have e:j=2∨j=3:=by omega
       rcases e with rfl|rfl<;>omega
     rcases (show bt s (p+j) < 128∨(128≤bt s (p+j)∧191 < bt s (p+j)) from by omega) with c1|⟨c1,c2⟩
     ·have c1':((bt s (p+j):Nat):Int) < 128:=by omega
      go_wp2
      (refine bodyPost_ret (v:=.agg #[.int .i32 65533,.int .i64 1,.bool true]) (by simp [results,Tryz.results80,go_sem]) rfl ⟨?_,aag _ _ _⟩;rw [aau HD.out,HD.out];rfl)
     ·have c1':128≤((bt s (p+j):Nat):Int):=by omega
      have c2':191 < ((bt s (p+j):Nat):Int):=by omega
      go_wp2
      (refine bodyPost_ret (v:=.agg #[.int .i32 65533,.int .i64 1,.bool true]) (by simp [results,Tryz.results80,go_sem]) rfl ⟨?_,aag _ _ _⟩;rw [aau HD.out,HD.out];rfl)
   ·obtain rfl:j=1:=by omega
    by_cases c1:128≤bt s (p+1)∧bt s (p+1)≤191
    ·obtain ⟨c1,c2⟩:=c1
     have c1':128≤((bt s (p+1):Nat):Int):=by omega
     have c2':((bt s (p+1):Nat):Int)≤191:=by omega
     have c3':128≤((bt s (p+1):Nat):Int):=by omega
     have c4':((bt s (p+1):Nat):Int)≤191:=by omega
     go_wp2
     go_roundw
     case rel =>
      refine ⟨trivial,2,by omega,by omega,rfl,?_,fun g=>⟨c1,c2⟩,fun g=>by omega,fun g=>by omega⟩
      rw [HN.out];go_num
     case measure=>simp [intOf]
    ·have HD:Hid (Utf8.decode s p=(65533,1)):=by
      apply dbad s p (by omega)
      ·intro k;obtain ⟨_,_,_,_,_⟩:=k;omega
      ·intro k;obtain ⟨_,_,_,_,_,_,_,_,_⟩:=k;omega
      ·intro k;obtain ⟨_,_,_,_,_,_,_,_,_,_,_⟩:=k;omega
     rcases (show bt s (p+1) < 128∨(128≤bt s (p+1)∧191 < bt s (p+1)) from by omega) with c1|⟨c1,c2⟩
     ·have c1':((bt s (p+1):Nat):Int) < 128:=by omega
      go_wp2
      (refine bodyPost_ret (v:=.agg #[.int .i32 65533,.int .i64 1,.bool true]) (by simp [results,Tryz.results80,go_sem]) rfl ⟨?_,aag _ _ _⟩;rw [aau HD.out,HD.out];rfl)
     ·have c1':128≤((bt s (p+1):Nat):Int):=by omega
      have c2':191 < ((bt s (p+1):Nat):Int):=by omega
      go_wp2
      (refine bodyPost_ret (v:=.agg #[.int .i32 65533,.int .i64 1,.bool true]) (by simp [results,Tryz.results80,go_sem]) rfl ⟨?_,aag _ _ _⟩;rw [aau HD.out,HD.out];rfl)
  ·obtain rfl:j=3:=by omega
   have HE:Hid (Utf8.decode s p=(ad7 s p 16 3,3)):=by
    show Utf8.decode s p=(ad7 s p 16 3,3)
    have l1:=G1.out (by omega)
    have l2:=G2.out (by omega)
    skip
    rw [aef,dec3 _ _ _ _ _ ⟨by omega,by omega,by omega,by omega,by omega,by omega,by omega,by omega,by omega⟩]
    simp only [ad7,Nat.add_zero]
    exact Prod.ext (by simp only [Nat.add_assoc,Nat.reduceAdd];omega) rfl
   go_wp2
   refine bodyPost_ret (v:=.agg #[.int .i32 (ad7 s p 16 3:Nat),.int .i64 3,.bool false]) (by simp [results,Tryz.results80,go_sem]) rfl ⟨?_,aag _ _ _⟩
   rw [ads (by rw [HE.out];simp),HE.out]
   rfl
theorem one4a (s:ByteArray) (p:Nat) (w:World) (hs:s.size≤16777216) (hp:p < s.size) (h1:240≤bt s p) (h2:bt s p≤240) (hn:p+4≤s.size):ab9 s p w:=by
 unfold ab9
 have hbt:=abu s p hp
 have hpn:(p:Int)+4≤s.size:=by omega
 have i0:128≤((bt s p:Nat):Int):=by omega
 have i1:194≤((bt s p:Nat):Int):=by omega
 have i2:223 < ((bt s p:Nat):Int):=by omega
 have i3:224≤((bt s p:Nat):Int):=by omega
 have i4:239 < ((bt s p:Nat):Int):=by omega
 have i5:240≤((bt s p:Nat):Int):=by omega
 have i6:((bt s p:Nat):Int)≤244:=by omega
 have q240:(((bt s p:Nat):Int) == 240)=true:=by rw [beq_iff_eq];omega
 have q244:(((bt s p:Nat):Int) == 244)=false:=by rw [beq_eq_false_iff_ne];omega
 have hand:=i32_and7 (bt s p) (by omega) (by omega)
 go_enter Tryz.func80,Tryz.ntmps80
 go_wp2
 go_loopw [9,10] (fun r k w1=>w1=w.alloc (.cells #[.int .i32 0,.int .i64 0,.bool false] 130)∧∃ j:Nat,1≤j∧j≤4∧k=.int .i64 j∧r=.int .i32 (ad7 s p 8 j:Nat)∧(2≤j→144≤bt s (p+1)∧bt s (p+1)≤191)∧(3≤j→128≤bt s (p+2)∧bt s (p+2)≤191)∧(4≤j→128≤bt s (p+3)∧bt s (p+3)≤191)) (fun r k w1=>4 - (intOf k).toNat)
 case atStart=>exact ⟨rfl,1,by omega,by omega,rfl,by simp [ad7],fun h=>by omega,fun h=>by omega,fun h=>by omega⟩
 case round =>
  obtain ⟨rfl,j,hj1,hj2,rfl,rfl,g1,g2,g3⟩:=hrel
  have G1:=ke g1;clear g1
  have G2:=ke g2;clear g2
  have G3:=ke g3;clear g3
  clear hand hbt
  by_cases hlt:j < 4
  ·have hpj:p+j < s.size:=by omega
   have hbt:=abu s (p+j) hpj
   have hb256:=ac2 s (p+j)
   have hand:=aew (bt s (p+j)) (by omega) (by omega)
   have hacc:=ahp s p 8 (by omega) (by omega) j (by omega)
   have hj64:(j:Int) < 4:=by omega
   have HN:=ke (ae1 s p 8 j hj1)
   rcases Nat.lt_or_ge 1 j with hj|hj
   ·have hjb:((j:Int) == 1)=false:=by rw [beq_eq_false_iff_ne];omega
    by_cases c1:128≤bt s (p+j)∧bt s (p+j)≤191
    ·obtain ⟨c1,c2⟩:=c1
     have c1':128≤((bt s (p+j):Nat):Int):=by omega
     have c2':((bt s (p+j):Nat):Int)≤191:=by omega
     go_wp2
     go_roundw
     case rel =>
      refine ⟨trivial,j+1,by omega,by omega,by go_num,?_,fun g=>G1.out (by omega),fun g=>?_,fun g=>?_⟩
      ·rw [HN.out];go_num
      ·by_cases e:j=2
       ·subst e;exact ⟨c1,c2⟩
       ·exact G2.out (by omega)
      ·by_cases e:j=3
       ·subst e;exact ⟨c1,c2⟩
       ·exact G3.out (by omega)
     case measure=>simp [intOf];omega
    ·have HD:Hid (Utf8.decode s p=(65533,1)):=by
      apply dbad s p (by omega)
      ·intro k;have:=k.2.1;omega
      ·intro k;obtain ⟨_,_,_,_,_,_,_,_,_⟩:=k
       have e:j=2:=by omega
       subst e;omega
      ·intro k;obtain ⟨_,_,_,_,_,_,_,_,_,_,_⟩:=k
       have e:j=2∨j=3:=by omega
       rcases e with rfl|rfl<;>omega
     rcases (show bt s (p+j) < 128∨(128≤bt s (p+j)∧191 < bt s (p+j)) from by omega) with c1|⟨c1,c2⟩
     ·have c1':((bt s (p+j):Nat):Int) < 128:=by omega
      go_wp2
      (refine bodyPost_ret (v:=.agg #[.int .i32 65533,.int .i64 1,.bool true]) (by simp [results,Tryz.results80,go_sem]) rfl ⟨?_,aag _ _ _⟩;rw [aau HD.out,HD.out];rfl)
     ·have c1':128≤((bt s (p+j):Nat):Int):=by omega
      have c2':191 < ((bt s (p+j):Nat):Int):=by omega
      go_wp2
      (refine bodyPost_ret (v:=.agg #[.int .i32 65533,.int .i64 1,.bool true]) (by simp [results,Tryz.results80,go_sem]) rfl ⟨?_,aag _ _ _⟩;rw [aau HD.out,HD.out];rfl)
   ·obtain rfl:j=1:=by omega
    by_cases c1:144≤bt s (p+1)∧bt s (p+1)≤191
    ·obtain ⟨c1,c2⟩:=c1
     have c1':144≤((bt s (p+1):Nat):Int):=by omega
     have c2':((bt s (p+1):Nat):Int)≤191:=by omega
     have c3':128≤((bt s (p+1):Nat):Int):=by omega
     have c4':((bt s (p+1):Nat):Int)≤191:=by omega
     go_wp2
     go_roundw
     case rel =>
      refine ⟨trivial,2,by omega,by omega,rfl,?_,fun g=>⟨c1,c2⟩,fun g=>by omega,fun g=>by omega⟩
      rw [HN.out];go_num
     case measure=>simp [intOf]
    ·have HD:Hid (Utf8.decode s p=(65533,1)):=by
      apply dbad s p (by omega)
      ·intro k;obtain ⟨_,_,_,_,_⟩:=k;omega
      ·intro k;obtain ⟨_,_,_,_,_,_,_,_,_⟩:=k;omega
      ·intro k;obtain ⟨_,_,_,_,_,_,_,_,_,_,_⟩:=k;omega
     rcases (show bt s (p+1) < 144∨(144≤bt s (p+1)∧191 < bt s (p+1)) from by omega) with c1|⟨c1,c2⟩
     ·have c1':((bt s (p+1):Nat):Int) < 144:=by omega
      go_wp2
      (refine bodyPost_ret (v:=.agg #[.int .i32 65533,.int .i64 1,.bool true]) (by simp [results,Tryz.results80,go_sem]) rfl ⟨?_,aag _ _ _⟩;rw [aau HD.out,HD.out];rfl)
     ·have c1':144≤((bt s (p+1):Nat):Int):=by omega
      have c2':191 < ((bt s (p+1):Nat):Int):=by omega
      go_wp2
      (refine bodyPost_ret (v:=.agg #[.int .i32 65533,.int .i64 1,.bool true]) (by simp [results,Tryz.results80,go_sem]) rfl ⟨?_,aag _ _ _⟩;rw [aau HD.out,HD.out];rfl)
  ·obtain rfl:j=4:=by omega
   have HE:Hid (Utf8.decode s p=(ad7 s p 8 4,4)):=by
    show Utf8.decode s p=(ad7 s p 8 4,4)
    have l1:=G1.out (by omega)
    have l2:=G2.out (by omega)
    have l3:=G3.out (by omega)
    rw [aef,dec4 _ _ _ _ _ ⟨by omega,by omega,by omega,by omega,by omega,by omega,by omega,by omega,by omega,by omega,by omega⟩]
    simp only [ad7,Nat.add_zero]
    exact Prod.ext (by simp only [Nat.add_assoc,Nat.reduceAdd];omega) rfl
   go_wp2
   refine bodyPost_ret (v:=.agg #[.int .i32 (ad7 s p 8 4:Nat),.int .i64 4,.bool false]) (by simp [results,Tryz.results80,go_sem]) rfl ⟨?_,aag _ _ _⟩
   rw [ads (by rw [HE.out];simp),HE.out]
   rfl
end
end Go.Proofs.YtddnnohfbagbnaaGreatDoor
