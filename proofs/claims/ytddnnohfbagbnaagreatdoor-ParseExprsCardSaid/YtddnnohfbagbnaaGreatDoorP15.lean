/- Parts of the proof: Qk, Ql, RefX, RefX2, RefX3, RefX4, RefX5, RefX6, RefX7, RefY, RefZ, Or. -/
import Derived.Test.YtddnnohfbagbnaaGreatDoorHi
import Derived.Test.YtddnnohfbagbnaaGreatDoorP10
import Derived.Test.YtddnnohfbagbnaaGreatDoorP2
import Derived.Test.YtddnnohfbagbnaaGreatDoorP7
import Derived.Test.YtddnnohfbagbnaaGreatDoorP11
import Derived.Deep.Cut
import Derived.Laws.StructEq
set_option maxHeartbeats 4000000
set_option maxRecDepth 100000
namespace Go.Proofs.YtddnnohfbagbnaaGreatDoor
set_option linter.unusedSimpArgs false
set_option linter.unusedVariables false
section
open Go.RowKit
def Fb (s:RS):Prop:=s.wc≠0∧s.ws=[]
def FlS (s t:RS):Prop:=t.wc=s.wc∧t.wa=s.wa∧t.ws=[]∧t.sz=s.sz∧t.lc=s.lc∧t.la=s.la
theorem FlS.refl {s:RS} (h:Fb s):FlS s s:=⟨rfl,rfl,h.2,rfl,rfl,rfl⟩
theorem FlS.trans {s t u:RS} (h:FlS s t) (k:FlS t u):FlS s u:=⟨k.1.trans h.1,k.2.1.trans h.2.1,k.2.2.1,k.2.2.2.1.trans h.2.2.2.1,k.2.2.2.2.1.trans h.2.2.2.2.1,k.2.2.2.2.2.trans h.2.2.2.2.2⟩
theorem FlS.fb {s t:RS} (h:Fb s) (k:FlS s t):Fb t:=⟨by rw [k.1];exact h.1,k.2.2.1⟩
theorem Fb.sees {s:RS} (h:Fb s) (j:Nat) (p:ByteArray):s.sees j p=false:=by unfold RS.sees;rw [h.2];rfl
theorem Fb.fail {s:RS} (h:Fb s) (c:Int):FlS s (s.fail c):=by
 unfold RS.fail;rw [if_neg h.1];exact ⟨rfl,rfl,rfl,rfl,rfl,rfl⟩
theorem Fb.need {s:RS} (h:Fb s) (p:ByteArray):FlS s (s.need p):=by
 unfold RS.need;rw [h.sees];simp only [Bool.false_eq_true,if_false];exact h.fail _
theorem Fb.inc {s:RS} (h:Fb s):FlS s s.inc:=⟨rfl,rfl,h.2,rfl,rfl,rfl⟩
theorem Fb.dec {s:RS} (h:Fb s):FlS s s.dec:=⟨rfl,rfl,h.2,rfl,rfl,rfl⟩
theorem Fb.enter {s:RS} (h:Fb s) (p:ByteArray):FlS s (s.enter p):=by
 unfold RS.enter;rw [h.sees];simp only [Bool.false_eq_true,and_false,if_false]
 have h1:=h.need p
 exact h1.trans (h1.fb h).inc
theorem Fb.leave {s:RS} (h:Fb s) (p:ByteArray):FlS s (s.leave p):=(h.need p).trans ((h.need p).fb h).dec
theorem Fb.name {s:RS} (h:Fb s):FlS s s.name:=by
 have e:nmP s.ws[0]?=none:=by rw [h.2];rfl
 unfold RS.name RS.byO;rw [e];exact h.fail _
theorem run_bad:∀ (n:Nat) (m:Md) (s:RS),Fb s→FlS s (run n m s).2:=by
 intro n
 induction n with
 | zero=>intro m s h;exact FlS.refl h
 | succ n ih =>
  intro m s h
  have two:∀ m1 m2,FlS s (run n m2 (run n m1 s).2).2:=fun m1 m2=>(ih m1 s h).trans (ih m2 _ ((ih m1 s h).fb h))
  have e0:s.ws[0]?=none:=by rw [h.2];rfl
  cases m with
  | expr=>simp only [run];exact ih _ _ h
  | joined k=>simp only [run];exact two _ _
  | loopJ k e=>simp only [run,e0,fxP];exact FlS.refl h
  | signed =>
   have e:acz s=none:=by unfold acz;simp [h.sees]
   simp only [run,e];exact ih _ _ h
  | followed=>simp only [run];exact two _ _
  | loopF e=>simp only [run,h.sees];exact FlS.refl h
  | used p c ty l =>
   have h1:=h.name
   simp only [run,(h1.fb h).sees];exact h1
  | args =>
   have h1:=h.enter aah
   have h2:=ih .listed _ (h1.fb h)
   have h3:=h1.trans h2
   simp only [run];exact h3.trans (Fb.leave (h3.fb h) _)
  | listed=>simp only [run,h.sees];exact two _ _
  | more l=>simp only [run,h.sees];exact FlS.refl h
  | atom=>simp only [run,e0];exact ih _ _ h
  | fixed=>simp only [run,h.sees];exact h.fail _
theorem RX_bad (m:Md) {s:RS} (h:Fb s):FlS s (RX m s).2:=run_bad _ _ _ h
theorem Rel.fl {L:List Wd} {n:Int} {q:QS} {s t:RS} (h:Rel L n q s) (hs:Fb s) (hf:FlS s t):Rel L n q t:=by
 obtain ⟨a1,a2,a3,a4,a5,a6⟩:=h
 obtain ⟨b1,b2,b3,b4,b5,b6⟩:=hf
 refine ⟨b4.trans a1,a2,fun e=>absurd (b1.symm.trans e) hs.1,fun _=>?_,fun e=>?_,fun e=>?_⟩
 ·have:=a4 hs.1
  exact ⟨this.1.trans b1.symm,this.2.1.trans b2.symm,b3⟩
 ·have:=a5 e
  exact ⟨b5.trans this.1,this.2.trans b6.symm⟩
 ·exact b5.trans (a6 e)
theorem ahl (s:RS) {c:Int} (hc:c≠0):Fb (s.fail c):=⟨abt s hc,by unfold RS.fail;split<;>rfl⟩
theorem Rel.fb {L:List Wd} {n:Int} {q:QS} {s:RS} (h:Rel L n q s) (h0:s.wc≠0):Fb s:=⟨h0,(h.2.2.2.1 h0).2.2⟩
theorem Rel.opb {L:List Wd} {n:Int} {q:QS} {s:RS} (h:Rel L n q s):OpB s:=fun h0=>⟨(h.2.2.1 h0).2.2.2.1,(h.2.2.1 h0).2.2.2.2⟩
theorem Rel.deep {L:List Wd} {n:Int} {q:QS} {s:RS} (h:Rel L n q s) (h0:s.wc≠0) (d o:Int):Rel L n { q with dp:=d } { s with op:=o }:=by
 obtain ⟨a1,a2,a3,a4,a5,a6⟩:=h
 exact ⟨a1,a2,fun e=>absurd e h0,a4,a5,a6⟩
end
section
open Go.RowKit
theorem level_0 (w:World) (s:ByteArray) (h0:(s.toList == [124,124])=true):Calls Tryz.prog 111 #[.string s] w fun e w'=>e=.returned (.int .i64 1)∧w=w':=by
 go_enter Tryz.func111,Tryz.ntmps111
 go_wp2
 go_ret
 exact ⟨rfl,rfl⟩
theorem level_1 (w:World) (s:ByteArray) (h0:(s.toList == [124,124])=false) (h1:(s.toList == [38,38])=true):Calls Tryz.prog 111 #[.string s] w fun e w'=>e=.returned (.int .i64 2)∧w=w':=by
 go_enter Tryz.func111,Tryz.ntmps111
 go_wp2
 go_ret
 exact ⟨rfl,rfl⟩
theorem level_2 (w:World) (s:ByteArray) (h0:(s.toList == [124,124])=false) (h1:(s.toList == [38,38])=false) (h2:(s.toList == [61,61])=true):Calls Tryz.prog 111 #[.string s] w fun e w'=>e=.returned (.int .i64 3)∧w=w':=by
 go_enter Tryz.func111,Tryz.ntmps111
 go_wp2
 go_ret
 exact ⟨rfl,rfl⟩
theorem level_3 (w:World) (s:ByteArray) (h0:(s.toList == [124,124])=false) (h1:(s.toList == [38,38])=false) (h2:(s.toList == [61,61])=false) (h3:(s.toList == [33,61])=true):Calls Tryz.prog 111 #[.string s] w fun e w'=>e=.returned (.int .i64 3)∧w=w':=by
 go_enter Tryz.func111,Tryz.ntmps111
 go_wp2
 go_ret
 exact ⟨rfl,rfl⟩
theorem level_4 (w:World) (s:ByteArray) (h0:(s.toList == [124,124])=false) (h1:(s.toList == [38,38])=false) (h2:(s.toList == [61,61])=false) (h3:(s.toList == [33,61])=false) (h4:(s.toList == [60])=true):Calls Tryz.prog 111 #[.string s] w fun e w'=>e=.returned (.int .i64 4)∧w=w':=by
 go_enter Tryz.func111,Tryz.ntmps111
 go_wp2
 go_ret
 exact ⟨rfl,rfl⟩
theorem level_5 (w:World) (s:ByteArray) (h0:(s.toList == [124,124])=false) (h1:(s.toList == [38,38])=false) (h2:(s.toList == [61,61])=false) (h3:(s.toList == [33,61])=false) (h4:(s.toList == [60])=false) (h5:(s.toList == [60,61])=true):Calls Tryz.prog 111 #[.string s] w fun e w'=>e=.returned (.int .i64 4)∧w=w':=by
 go_enter Tryz.func111,Tryz.ntmps111
 go_wp2
 go_ret
 exact ⟨rfl,rfl⟩
theorem level_6 (w:World) (s:ByteArray) (h0:(s.toList == [124,124])=false) (h1:(s.toList == [38,38])=false) (h2:(s.toList == [61,61])=false) (h3:(s.toList == [33,61])=false) (h4:(s.toList == [60])=false) (h5:(s.toList == [60,61])=false) (h6:(s.toList == [43])=true):Calls Tryz.prog 111 #[.string s] w fun e w'=>e=.returned (.int .i64 5)∧w=w':=by
 go_enter Tryz.func111,Tryz.ntmps111
 go_wp2
 go_ret
 exact ⟨rfl,rfl⟩
theorem level_7 (w:World) (s:ByteArray) (h0:(s.toList == [124,124])=false) (h1:(s.toList == [38,38])=false) (h2:(s.toList == [61,61])=false) (h3:(s.toList == [33,61])=false) (h4:(s.toList == [60])=false) (h5:(s.toList == [60,61])=false) (h6:(s.toList == [43])=false) (h7:(s.toList == [45])=true):Calls Tryz.prog 111 #[.string s] w fun e w'=>e=.returned (.int .i64 5)∧w=w':=by
 go_enter Tryz.func111,Tryz.ntmps111
 go_wp2
 go_ret
 exact ⟨rfl,rfl⟩
theorem level_8 (w:World) (s:ByteArray) (h0:(s.toList == [124,124])=false) (h1:(s.toList == [38,38])=false) (h2:(s.toList == [61,61])=false) (h3:(s.toList == [33,61])=false) (h4:(s.toList == [60])=false) (h5:(s.toList == [60,61])=false) (h6:(s.toList == [43])=false) (h7:(s.toList == [45])=false) (h8:(s.toList == [42])=true):Calls Tryz.prog 111 #[.string s] w fun e w'=>e=.returned (.int .i64 6)∧w=w':=by
 go_enter Tryz.func111,Tryz.ntmps111
 go_wp2
 go_ret
 exact ⟨rfl,rfl⟩
theorem level_9 (w:World) (s:ByteArray) (h0:(s.toList == [124,124])=false) (h1:(s.toList == [38,38])=false) (h2:(s.toList == [61,61])=false) (h3:(s.toList == [33,61])=false) (h4:(s.toList == [60])=false) (h5:(s.toList == [60,61])=false) (h6:(s.toList == [43])=false) (h7:(s.toList == [45])=false) (h8:(s.toList == [42])=false) (h9:(s.toList == [47])=true):Calls Tryz.prog 111 #[.string s] w fun e w'=>e=.returned (.int .i64 6)∧w=w':=by
 go_enter Tryz.func111,Tryz.ntmps111
 go_wp2
 go_ret
 exact ⟨rfl,rfl⟩
theorem level_10 (w:World) (s:ByteArray) (h0:(s.toList == [124,124])=false) (h1:(s.toList == [38,38])=false) (h2:(s.toList == [61,61])=false) (h3:(s.toList == [33,61])=false) (h4:(s.toList == [60])=false) (h5:(s.toList == [60,61])=false) (h6:(s.toList == [43])=false) (h7:(s.toList == [45])=false) (h8:(s.toList == [42])=false) (h9:(s.toList == [47])=false) (h10:(s.toList == [37])=true):Calls Tryz.prog 111 #[.string s] w fun e w'=>e=.returned (.int .i64 6)∧w=w':=by
 go_enter Tryz.func111,Tryz.ntmps111
 go_wp2
 go_ret
 exact ⟨rfl,rfl⟩
theorem level_11 (w:World) (s:ByteArray) (h0:(s.toList == [124,124])=false) (h1:(s.toList == [38,38])=false) (h2:(s.toList == [61,61])=false) (h3:(s.toList == [33,61])=false) (h4:(s.toList == [60])=false) (h5:(s.toList == [60,61])=false) (h6:(s.toList == [43])=false) (h7:(s.toList == [45])=false) (h8:(s.toList == [42])=false) (h9:(s.toList == [47])=false) (h10:(s.toList == [37])=false) (h11:(s.toList == [64])=true):Calls Tryz.prog 111 #[.string s] w fun e w'=>e=.returned (.int .i64 6)∧w=w':=by
 go_enter Tryz.func111,Tryz.ntmps111
 go_wp2
 go_ret
 exact ⟨rfl,rfl⟩
theorem level_12 (w:World) (s:ByteArray) (h0:(s.toList == [124,124])=false) (h1:(s.toList == [38,38])=false) (h2:(s.toList == [61,61])=false) (h3:(s.toList == [33,61])=false) (h4:(s.toList == [60])=false) (h5:(s.toList == [60,61])=false) (h6:(s.toList == [43])=false) (h7:(s.toList == [45])=false) (h8:(s.toList == [42])=false) (h9:(s.toList == [47])=false) (h10:(s.toList == [37])=false) (h11:(s.toList == [64])=false):Calls Tryz.prog 111 #[.string s] w fun e w'=>e=.returned (.int .i64 0)∧w=w':=by
 go_enter Tryz.func111,Tryz.ntmps111
 go_wp2
 go_ret
 exact ⟨rfl,rfl⟩
theorem level_any (w:World) (s:ByteArray):Calls Tryz.prog 111 #[.string s] w fun e w'=>e=.returned (.int .i64 (aat s))∧w=w':=by
 cases h0:(s.toList == [124,124]) with
 | true =>
  have e:aat s=1:=by
   have g:s.toList=[124,124]:=by simpa using h0
   unfold aat;rw [g];rfl
  rw [e];exact level_0 w s h0
 | false =>
  cases h1:(s.toList == [38,38]) with
  | true =>
   have e:aat s=2:=by
    have g:s.toList=[38,38]:=by simpa using h1
    unfold aat;rw [g];rfl
   rw [e];exact level_1 w s h0 h1
  | false =>
   cases h2:(s.toList == [61,61]) with
   | true =>
    have e:aat s=3:=by
     have g:s.toList=[61,61]:=by simpa using h2
     unfold aat;rw [g];rfl
    rw [e];exact level_2 w s h0 h1 h2
   | false =>
    cases h3:(s.toList == [33,61]) with
    | true =>
     have e:aat s=3:=by
      have g:s.toList=[33,61]:=by simpa using h3
      unfold aat;rw [g];rfl
     rw [e];exact level_3 w s h0 h1 h2 h3
    | false =>
     cases h4:(s.toList == [60]) with
     | true =>
      have e:aat s=4:=by
       have g:s.toList=[60]:=by simpa using h4
       unfold aat;rw [g];rfl
      rw [e];exact level_4 w s h0 h1 h2 h3 h4
     | false =>
      cases h5:(s.toList == [60,61]) with
      | true =>
       have e:aat s=4:=by
        have g:s.toList=[60,61]:=by simpa using h5
        unfold aat;rw [g];rfl
       rw [e];exact level_5 w s h0 h1 h2 h3 h4 h5
      | false =>
       cases h6:(s.toList == [43]) with
       | true =>
        have e:aat s=5:=by
         have g:s.toList=[43]:=by simpa using h6
         unfold aat;rw [g];rfl
        rw [e];exact level_6 w s h0 h1 h2 h3 h4 h5 h6
       | false =>
        cases h7:(s.toList == [45]) with
        | true =>
         have e:aat s=5:=by
          have g:s.toList=[45]:=by simpa using h7
          unfold aat;rw [g];rfl
         rw [e];exact level_7 w s h0 h1 h2 h3 h4 h5 h6 h7
        | false =>
         cases h8:(s.toList == [42]) with
         | true =>
          have e:aat s=6:=by
           have g:s.toList=[42]:=by simpa using h8
           unfold aat;rw [g];rfl
          rw [e];exact level_8 w s h0 h1 h2 h3 h4 h5 h6 h7 h8
         | false =>
          cases h9:(s.toList == [47]) with
          | true =>
           have e:aat s=6:=by
            have g:s.toList=[47]:=by simpa using h9
            unfold aat;rw [g];rfl
           rw [e];exact level_9 w s h0 h1 h2 h3 h4 h5 h6 h7 h8 h9
          | false =>
           cases h10:(s.toList == [37]) with
           | true =>
            have e:aat s=6:=by
             have g:s.toList=[37]:=by simpa using h10
             unfold aat;rw [g];rfl
            rw [e];exact level_10 w s h0 h1 h2 h3 h4 h5 h6 h7 h8 h9 h10
           | false =>
            cases h11:(s.toList == [64]) with
            | true =>
             have e:aat s=6:=by
              have g:s.toList=[64]:=by simpa using h11
              unfold aat;rw [g];rfl
             rw [e];exact level_11 w s h0 h1 h2 h3 h4 h5 h6 h7 h8 h9 h10 h11
            | false =>
             have e:aat s=0:=by
              have g0:s.toList≠[124,124]:=by simpa using h0
              have g1:s.toList≠[38,38]:=by simpa using h1
              have g2:s.toList≠[61,61]:=by simpa using h2
              have g3:s.toList≠[33,61]:=by simpa using h3
              have g4:s.toList≠[60]:=by simpa using h4
              have g5:s.toList≠[60,61]:=by simpa using h5
              have g6:s.toList≠[43]:=by simpa using h6
              have g7:s.toList≠[45]:=by simpa using h7
              have g8:s.toList≠[42]:=by simpa using h8
              have g9:s.toList≠[47]:=by simpa using h9
              have g10:s.toList≠[37]:=by simpa using h10
              have g11:s.toList≠[64]:=by simpa using h11
              unfold aat tightL;simp [g0,g1,g2,g3,g4,g5,g6,g7,g8,g9,g10,g11]
             rw [e];exact level_12 w s h0 h1 h2 h3 h4 h5 h6 h7 h8 h9 h10 h11
end
section
open Go.RowKit
/-! ### What stands at a place: a blank, a note, a word, or none -/
def ag0 (l:List UInt8):Nat:=1+aa2 (fun r=>!(r == 10)) (l.drop 1)
def aj8 (l:List UInt8):Bool:=l.head? == some 47 && (l.drop 1).head? == some 47
def af2 (l:List UInt8):Bool:=match l with|[]=>false|b :: _=>b.toNat == 32 || (b.toNat == 9 || (b.toNat == 10 || b.toNat == 13))
def aep (l:List UInt8):Nat×List UInt8×Nat :=
 if af2 l=true then (0,[],1) else if aj8 l=true then (0,[],ag0 l) else if (aao l).2.2=0 then (0,[],0) else aao l
def oneA (l:List UInt8) (p:Nat):Nat:=if (aep l).1=0 then 0 else p
def aay (s:ByteArray) (p:Nat) (w:World):Prop:=Calls Tryz.prog 45 #[.string s,.int .i64 (p:Nat)] w fun e w'=>e=.returned (.tuple #[.agg #[.int .i64 ((aep (s.data.toList.drop p)).1:Nat),.string ⟨(aep (s.data.toList.drop p)).2.1.toArray⟩,.int .i64 (oneA (s.data.toList.drop p) p:Nat)],.int .i64 ((aep (s.data.toList.drop p)).2.2:Nat)])∧Below w.heap.size w w'
theorem aby {s:ByteArray} {p:Nat} {k n:Nat} {t:ByteArray} {a:Nat} (h:aep (s.data.toList.drop p)=(k,t.data.toList,n)) (ha:oneA (s.data.toList.drop p) p=a) :
 Ending.returned (.tuple #[.agg #[.int .i64 (k:Nat),.string t,.int .i64 (a:Nat)],.int .i64 (n:Nat)])=.returned (.tuple #[.agg #[.int .i64 ((aep (s.data.toList.drop p)).1:Nat),.string ⟨(aep (s.data.toList.drop p)).2.1.toArray⟩,.int .i64 (oneA (s.data.toList.drop p) p:Nat)],.int .i64 ((aep (s.data.toList.drop p)).2.2:Nat)]):=by
 rw [h,ha]
theorem aeu (l:List UInt8) (p k n:Nat) (t:List UInt8) (h:aep l=(k,t,n)) (hk:k=0):oneA l p=0:=by unfold oneA;rw [h,if_pos hk]
theorem ah0 (l:List UInt8) (p k n:Nat) (t:List UInt8) (h:aep l=(k,t,n)) (hk:k≠0):oneA l p=p:=by unfold oneA;rw [h,if_neg hk]
theorem head_of (s:ByteArray) (p:Nat) (h:p < s.size):∃ b t,s.data.toList.drop p=b :: t∧t=s.data.toList.drop (p+1)∧b.toNat=bt s p:=by
 obtain ⟨b,e,h1,_⟩:=ad1 s p h
 exact ⟨b,_,e,rfl,h1⟩
theorem isBlank_at (s:ByteArray) (p:Nat) (h:p < s.size):af2 (s.data.toList.drop p)=(bt s p == 32 || (bt s p == 9 || (bt s p == 10 || bt s p == 13))):=by
 obtain ⟨b,t,e,_,h1⟩:=head_of s p h
 rw [e,af2,h1]
theorem isNote_at (s:ByteArray) (p:Nat):aj8 (s.data.toList.drop p)=decide (p < s.size∧bt s p=47∧p+1 < s.size∧bt s (p+1)=47):=by
 unfold aj8
 rw [Bool.eq_iff_iff,Bool.and_eq_true,beq_iff_eq,beq_iff_eq,List.drop_drop,head_at,head_at,decide_eq_true_iff]
 constructor
 ·rintro ⟨⟨a,b⟩,c,d⟩;exact ⟨a,b,c,d⟩
 ·rintro ⟨a,b,c,d⟩;exact ⟨⟨a,b⟩,c,d⟩
theorem one_blank (s:ByteArray) (p:Nat) (h:p < s.size) (hb:bt s p=32∨bt s p=9∨bt s p=10∨bt s p=13):aep (s.data.toList.drop p)=(0,[],1):=by
 unfold aep
 rw [if_pos]
 rw [isBlank_at s p h]
 rcases hb with e|e|e|e<;>rw [e]<;>rfl
theorem blank_no (s:ByteArray) (p:Nat) (h:p < s.size) (hb:¬ (bt s p=32∨bt s p=9∨bt s p=10∨bt s p=13)):¬ (af2 (s.data.toList.drop p)=true):=by
 rw [isBlank_at s p h]
 simp only [Bool.or_eq_true,beq_iff_eq];exact hb
theorem one_note (s:ByteArray) (p:Nat) (h:p < s.size) (hb:bt s p=47) (h2:p+1 < s.size) (hb2:bt s (p+1)=47):aep (s.data.toList.drop p)=(0,[],ag0 (s.data.toList.drop p)):=by
 unfold aep
 rw [if_neg (blank_no s p h (by omega)),if_pos]
 rw [isNote_at,decide_eq_true_iff];exact ⟨h,hb,h2,hb2⟩
theorem akf (s:ByteArray) (p:Nat) (h:p < s.size) (hb:¬ (bt s p=32∨bt s p=9∨bt s p=10∨bt s p=13)) (hn:¬ (bt s p=47∧p+1 < s.size∧bt s (p+1)=47)) (k n:Nat) (t:List UInt8) (hf:aao (s.data.toList.drop p)=(k,t,n)) (h0:n≠0):aep (s.data.toList.drop p)=(k,t,n):=by
 unfold aep
 rw [if_neg (blank_no s p h hb),if_neg,if_neg (by rw [hf];exact h0),hf]
 rw [isNote_at,decide_eq_true_iff];rintro ⟨_,a,b,c⟩;exact hn ⟨a,b,c⟩
theorem one_none_w (s:ByteArray) (p:Nat) (h:p < s.size) (hb:¬ (bt s p=32∨bt s p=9∨bt s p=10∨bt s p=13)) (hn:¬ (bt s p=47∧p+1 < s.size∧bt s (p+1)=47)) (h0:(aao (s.data.toList.drop p)).2.2=0):aep (s.data.toList.drop p)=(0,[],0):=by
 unfold aep
 rw [if_neg (blank_no s p h hb),if_neg,if_pos h0]
 rw [isNote_at,decide_eq_true_iff];rintro ⟨_,a,b,c⟩;exact hn ⟨a,b,c⟩
theorem note_at (s:ByteArray) (p n:Nat) (h:p < s.size) (hn:ag0 (s.data.toList.drop p)=n+aa2 (fun r=>!(r == 10)) (s.data.toList.drop (p+n))) (hlt:p+n < s.size) (hb:bt s (p+n)≠10):ag0 (s.data.toList.drop p)=n+1+aa2 (fun r=>!(r == 10)) (s.data.toList.drop (p+(n+1))):=by
 rw [hn,aci _ s (p+n) hlt,if_pos (by simp;omega),show p+n+1=p+(n+1) from by omega];omega
theorem note_stop (s:ByteArray) (p n:Nat) (hn:ag0 (s.data.toList.drop p)=n+aa2 (fun r=>!(r == 10)) (s.data.toList.drop (p+n))) (hlt:¬ (p+n < s.size∧bt s (p+n)≠10)):ag0 (s.data.toList.drop p)=n:=by
 rw [hn]
 by_cases h:p+n < s.size
 ·rw [aci _ s (p+n) h,if_neg]
  ·rfl
  ·have:bt s (p+n)=10:=by
    apply Classical.byContradiction;intro g;exact hlt ⟨h,g⟩
   rw [this];decide
 ·rw [ake _ s (p+n) h];rfl
theorem w_blank (s:ByteArray) (p:Nat) (w:World) (hs:s.size≤1048576) (hp:p < s.size) (h:bt s p=32∨bt s p=9∨bt s p=10∨bt s p=13):aay s p w:=by
 have h1:=one_blank s p hp h
 have H1:=ke h1;clear h1
 unfold aay
 have hbt:=abu s p hp
 rcases h with h|h|h|h
 all_goals
  rw [h] at hbt;clear h
  go_enter Tryz.func45,Tryz.ntmps45
  go_wp2
  refine bodyPost_ret (v:=.tuple #[.agg #[.int .i64 0,.string ⟨#[]⟩,.int .i64 0],.int .i64 1]) (by simp [results,Tryz.results45,go_sem]) rfl ⟨aby (t:=⟨#[]⟩) (k:=0) (n:=1) H1.out (aeu _ _ _ _ _ H1.out rfl),aag _ _ _⟩
theorem w_note (s:ByteArray) (p:Nat) (w:World) (hs:s.size≤1048576) (hp:p < s.size) (h:bt s p=47) (h2:p+1 < s.size) (hb2:bt s (p+1)=47):aay s p w:=by
 have h1:=one_note s p hp h h2 hb2
 obtain ⟨m,hm⟩:∃ m,ag0 (s.data.toList.drop p)=m:=⟨_,rfl⟩
 have hm1:ag0 (s.data.toList.drop p)=1+aa2 (fun r=>!(r == 10)) (s.data.toList.drop (p+1)):=by unfold ag0;rw [List.drop_drop]
 rw [hm] at h1
 have H1:=ke h1;clear h1
 have HM1:=ke hm1;clear hm1
 have HM:=ke hm;clear hm
 unfold aay
 have hbt:=abu s p hp
 rw [h] at hbt;clear h
 have hbt2:=abu s (p+1) h2
 rw [hb2] at hbt2;clear hb2
 have i1:(p:Int)+1 < s.size:=by omega
 have i2:((p:Int)+1).toNat=p+1:=by omega
 have i3:0≤(p:Int)+1:=by omega
 go_enter Tryz.func45,Tryz.ntmps45
 go_wp2
 go_loop [7] (fun v=>∃ n:Nat,v=.int .i64 n∧1≤n∧p+n≤s.size∧ag0 (s.data.toList.drop p)=n+aa2 (fun r=>!(r == 10)) (s.data.toList.drop (p+n))) (fun v=>s.size - (intOf v).toNat)
 case atStart=>exact ⟨1,rfl,by omega,by omega,HM1.out⟩
 case round =>
  obtain ⟨n,rfl,hn1,hn2,hn⟩:=hrel
  clear HM1 i1 i2 i3 hbt hbt2
  by_cases hlt:p+n < s.size
  ·have hbt:=abu s (p+n) hlt
   have h256:=ac2 s (p+n)
   have j1:(p:Int)+(n:Int) < s.size:=by omega
   have j2:((p:Int)+(n:Int)).toNat=p+n:=by omega
   have j3:0≤(p:Int)+(n:Int):=by omega
   by_cases h10:bt s (p+n)=10
   ·have b1:(((bt s (p+n):Nat):Int) != 10)=false:=by rw [bne_eq_false_iff_eq];omega
    have hnm:=note_stop s p n hn (fun h=>h.2 h10)
    rw [HM.out] at hnm
    have HNM:=ke hnm;clear hnm hn h10
    go_wp2
    refine bodyPost_ret (v:=.tuple #[.agg #[.int .i64 0,.string ⟨#[]⟩,.int .i64 0],.int .i64 (n:Nat)]) (by simp [results,Tryz.results45,go_sem]) rfl ⟨aby (t:=⟨#[]⟩) (k:=0) (by rw [← HNM.out];exact H1.out) (aeu _ _ _ _ _ H1.out rfl),aag _ _ _⟩
   ·have b1:(((bt s (p+n):Nat):Int) != 10)=true:=by rw [bne_iff_ne];omega
    have HN:=ke (note_at s p n hp hn hlt h10);clear hn h10
    go_wp2
    go_round
    case rel=>exact ⟨n+1,by go_num,by omega,by omega,HN.out⟩
    case measure=>simp [intOf];omega
  ·have hnm:=note_stop s p n hn (fun h=>hlt h.1)
   rw [HM.out] at hnm
   have HNM:=ke hnm;clear hnm hn
   have j1:(s.size:Int)≤(p:Int)+(n:Int):=by omega
   go_wp2
   refine bodyPost_ret (v:=.tuple #[.agg #[.int .i64 0,.string ⟨#[]⟩,.int .i64 0],.int .i64 (n:Nat)]) (by simp [results,Tryz.results45,go_sem]) rfl ⟨aby (t:=⟨#[]⟩) (k:=0) (by rw [← HNM.out];exact H1.out) (aeu _ _ _ _ _ H1.out rfl),aag _ _ _⟩
end
section
open Go.RowKit
theorem span_at (f:Int→Bool) (s:ByteArray) (p n N:Nat) (h:N=n+aa2 f (s.data.toList.drop (p+n))) (hlt:p+n < s.size) (hf:f (bt s (p+n))=true):N=n+1+aa2 f (s.data.toList.drop (p+(n+1))):=by
 rw [h,aci _ s (p+n) hlt,if_pos hf,show p+n+1=p+(n+1) from by omega];omega
theorem aiu (f:Int→Bool) (s:ByteArray) (p n N:Nat) (h:N=n+aa2 f (s.data.toList.drop (p+n))) (hlt:¬ (p+n < s.size∧f (bt s (p+n))=true)):N=n:=by
 rw [h]
 by_cases g:p+n < s.size
 ·rw [aci _ s (p+n) g,if_neg (fun e=>hlt ⟨g,e⟩)];rfl
 ·rw [ake _ s (p+n) g];rfl
theorem agw (s:ByteArray) (p n:Nat):(s.extract p (p+n)).data.toList=(s.data.toList.drop p).take n:=by
 rw [ac7,show p+n - p=n from by omega]
theorem w_digits (s:ByteArray) (p:Nat) (w:World) (hs:s.size≤1048576) (hp:p < s.size) (hd:aa7 (bt s p:Nat)=true):aay s p w:=by
 obtain ⟨N,hN⟩:∃ N,N=aa2 aa7 (s.data.toList.drop p):=⟨_,rfl⟩
 have hrg:48≤bt s p∧bt s p≤57:=by
  simp [aa7] at hd;omega
 have hst:N=1+aa2 aa7 (s.data.toList.drop (p+1)):=by rw [hN,aci aa7 s p hp,if_pos hd];omega
 have hf:aao (s.data.toList.drop p)=(2,(s.data.toList.drop p).take N,N):=by
  unfold aao
  rw [← hN,if_pos (by omega)]
 have h1:=akf s p hp (by omega) (by omega) _ _ _ hf (by omega)
 have H1:=ke h1
 have HA:=ke (ah0 _ p _ _ _ h1 (by decide));clear h1
 have HST:=ke hst
 unfold aay
 have hbt:=abu s p hp
 have h256:=ac2 s p
 have z1:(((bt s p:Nat):Int) == 32)=false:=by rw [beq_eq_false_iff_ne];omega
 have z2:(((bt s p:Nat):Int) == 9)=false:=by rw [beq_eq_false_iff_ne];omega
 have z3:(((bt s p:Nat):Int) == 10)=false:=by rw [beq_eq_false_iff_ne];omega
 have z4:(((bt s p:Nat):Int) == 13)=false:=by rw [beq_eq_false_iff_ne];omega
 have z5:(((bt s p:Nat):Int) == 47)=false:=by rw [beq_eq_false_iff_ne];omega
 clear hrg hf hst hN
 go_enter Tryz.func45,Tryz.ntmps45
 go_wp2_with (first|(go_at_call 81;refine (aax _ _).mono ?_;rintro e w1 ⟨rfl,rfl⟩)|(go_at_call 82;refine (aa0 _ (by assumption) _).mono ?_;rintro e w1 ⟨rfl,rfl⟩))
 go_loop [7] (fun v=>∃ n:Nat,v=.int .i64 n∧1≤n∧p+n≤s.size∧N=n+aa2 aa7 (s.data.toList.drop (p+n))) (fun v=>s.size - (intOf v).toNat)
 case atStart=>exact ⟨1,rfl,by omega,by omega,HST.out⟩
 case round =>
  obtain ⟨n,rfl,hn1,hn2,hn⟩:=hrel
  clear HST hbt hd z1 z2 z3 z4 z5
  have j2:((p:Int)+(n:Int)).toNat=p+n:=by omega
  have j3:0≤(p:Int)+(n:Int):=by omega
  have j4:(p:Int)+(n:Int)≤s.size:=by omega
  have j5:(p:Int)≤(p:Int)+(n:Int):=by omega
  by_cases hlt:p+n < s.size
  ·have hbt:=abu s (p+n) hlt
   have h256':=ac2 s (p+n)
   have j1:(p:Int)+(n:Int) < s.size:=by omega
   cases hd:aa7 (bt s (p+n):Nat)
   ·obtain rfl:=aiu aa7 s p n N hn (by rw [hd];simp)
    clear hn
    go_wp2_with (first|(go_at_call 81;refine (aax _ _).mono ?_;rintro e w1 ⟨rfl,rfl⟩)|(go_at_call 82;refine (aa0 _ (by assumption) _).mono ?_;rintro e w1 ⟨rfl,rfl⟩))
    refine bodyPost_ret (v:=.tuple #[.agg #[.int .i64 2,.string (s.extract p (p+N)),.int .i64 (p:Nat)],.int .i64 (N:Nat)]) (by simp [results,Tryz.results45,go_sem]) rfl ⟨aby (k:=2) (t:=s.extract p (p+N)) (by rw [agw];exact H1.out) HA.out,aag _ _ _⟩
   ·have HN:=ke (span_at aa7 s p n N hn hlt hd);clear hn
    go_wp2_with (first|(go_at_call 81;refine (aax _ _).mono ?_;rintro e w1 ⟨rfl,rfl⟩)|(go_at_call 82;refine (aa0 _ (by assumption) _).mono ?_;rintro e w1 ⟨rfl,rfl⟩))
    go_round
    case rel=>exact ⟨n+1,by go_num,by omega,by omega,HN.out⟩
    case measure=>simp [intOf];omega
  ·obtain rfl:=aiu aa7 s p n N hn (fun h=>hlt h.1)
   clear hn
   have j1:(s.size:Int)≤(p:Int)+(N:Int):=by omega
   go_wp2_with (first|(go_at_call 81;refine (aax _ _).mono ?_;rintro e w1 ⟨rfl,rfl⟩)|(go_at_call 82;refine (aa0 _ (by assumption) _).mono ?_;rintro e w1 ⟨rfl,rfl⟩))
   refine bodyPost_ret (v:=.tuple #[.agg #[.int .i64 2,.string (s.extract p (p+N)),.int .i64 (p:Nat)],.int .i64 (N:Nat)]) (by simp [results,Tryz.results45,go_sem]) rfl ⟨aby (k:=2) (t:=s.extract p (p+N)) (by rw [agw];exact H1.out) HA.out,aag _ _ _⟩
theorem w_name (s:ByteArray) (p:Nat) (w:World) (hs:s.size≤1048576) (hp:p < s.size) (hd:aa7 (bt s p:Nat)=false) (ha:aa1 (bt s p:Nat)=true):aay s p w:=by
 obtain ⟨N,hN⟩:∃ N,N=aa2 aa1 (s.data.toList.drop p):=⟨_,rfl⟩
 have hrg:58≤bt s p∧bt s p≤122:=by
  simp [aa1,adm,big,aa7] at ha hd;omega
 have hst:N=1+aa2 aa1 (s.data.toList.drop (p+1)):=by rw [hN,aci aa1 s p hp,if_pos ha];omega
 have hf:aao (s.data.toList.drop p)=(1,(s.data.toList.drop p).take N,N):=by
  unfold aao
  have e0:aa2 aa7 (s.data.toList.drop p)=0:=by rw [aci aa7 s p hp,if_neg (by rw [hd];simp)]
  rw [e0,if_neg (by omega),← hN,if_pos (by omega)]
 have h1:=akf s p hp (by omega) (by omega) _ _ _ hf (by omega)
 have H1:=ke h1
 have HA:=ke (ah0 _ p _ _ _ h1 (by decide));clear h1
 have HST:=ke hst
 unfold aay
 have hbt:=abu s p hp
 have h256:=ac2 s p
 have z1:(((bt s p:Nat):Int) == 32)=false:=by rw [beq_eq_false_iff_ne];omega
 have z2:(((bt s p:Nat):Int) == 9)=false:=by rw [beq_eq_false_iff_ne];omega
 have z3:(((bt s p:Nat):Int) == 10)=false:=by rw [beq_eq_false_iff_ne];omega
 have z4:(((bt s p:Nat):Int) == 13)=false:=by rw [beq_eq_false_iff_ne];omega
 have z5:(((bt s p:Nat):Int) == 47)=false:=by rw [beq_eq_false_iff_ne];omega
 clear hrg hf hst hN
 go_enter Tryz.func45,Tryz.ntmps45
 go_wp2_with (first|(go_at_call 81;refine (aax _ _).mono ?_;rintro e w1 ⟨rfl,rfl⟩)|(go_at_call 82;refine (aa0 _ (by assumption) _).mono ?_;rintro e w1 ⟨rfl,rfl⟩))
 go_loop [7] (fun v=>∃ n:Nat,v=.int .i64 n∧1≤n∧p+n≤s.size∧N=n+aa2 aa1 (s.data.toList.drop (p+n))) (fun v=>s.size - (intOf v).toNat)
 case atStart=>exact ⟨1,rfl,by omega,by omega,HST.out⟩
 case round =>
  obtain ⟨n,rfl,hn1,hn2,hn⟩:=hrel
  clear HST hbt hd z1 z2 z3 z4 z5 ha
  have j2:((p:Int)+(n:Int)).toNat=p+n:=by omega
  have j3:0≤(p:Int)+(n:Int):=by omega
  have j4:(p:Int)+(n:Int)≤s.size:=by omega
  have j5:(p:Int)≤(p:Int)+(n:Int):=by omega
  by_cases hlt:p+n < s.size
  ·have hbt:=abu s (p+n) hlt
   have h256':=ac2 s (p+n)
   have j1:(p:Int)+(n:Int) < s.size:=by omega
   cases hd:aa1 (bt s (p+n):Nat)
   ·obtain rfl:=aiu aa1 s p n N hn (by rw [hd];simp)
    clear hn
    go_wp2_with (first|(go_at_call 81;refine (aax _ _).mono ?_;rintro e w1 ⟨rfl,rfl⟩)|(go_at_call 82;refine (aa0 _ (by assumption) _).mono ?_;rintro e w1 ⟨rfl,rfl⟩))
    refine bodyPost_ret (v:=.tuple #[.agg #[.int .i64 1,.string (s.extract p (p+N)),.int .i64 (p:Nat)],.int .i64 (N:Nat)]) (by simp [results,Tryz.results45,go_sem]) rfl ⟨aby (k:=1) (t:=s.extract p (p+N)) (by rw [agw];exact H1.out) HA.out,aag _ _ _⟩
   ·have HN:=ke (span_at aa1 s p n N hn hlt hd);clear hn
    go_wp2_with (first|(go_at_call 81;refine (aax _ _).mono ?_;rintro e w1 ⟨rfl,rfl⟩)|(go_at_call 82;refine (aa0 _ (by assumption) _).mono ?_;rintro e w1 ⟨rfl,rfl⟩))
    go_round
    case rel=>exact ⟨n+1,by go_num,by omega,by omega,HN.out⟩
    case measure=>simp [intOf];omega
  ·obtain rfl:=aiu aa1 s p n N hn (fun h=>hlt h.1)
   clear hn
   have j1:(s.size:Int)≤(p:Int)+(N:Int):=by omega
   go_wp2_with (first|(go_at_call 81;refine (aax _ _).mono ?_;rintro e w1 ⟨rfl,rfl⟩)|(go_at_call 82;refine (aa0 _ (by assumption) _).mono ?_;rintro e w1 ⟨rfl,rfl⟩))
   refine bodyPost_ret (v:=.tuple #[.agg #[.int .i64 1,.string (s.extract p (p+N)),.int .i64 (p:Nat)],.int .i64 (N:Nat)]) (by simp [results,Tryz.results45,go_sem]) rfl ⟨aby (k:=1) (t:=s.extract p (p+N)) (by rw [agw];exact H1.out) HA.out,aag _ _ _⟩
end
section
open Go.RowKit
theorem first_34 (s:ByteArray) (p:Nat) (h:p < s.size) (hb:bt s p=34) :
 (adp (s.data.toList.drop p)=0∧(aao (s.data.toList.drop p)).2.2=0)∨(0 < adp (s.data.toList.drop p)∧aao (s.data.toList.drop p)=(3,abf (ag1 (s.data.toList.drop p) (adp (s.data.toList.drop p))),adp (s.data.toList.drop p))∧2≤adp (s.data.toList.drop p)∧p+adp (s.data.toList.drop p)≤s.size∧acf (ag1 (s.data.toList.drop p) (adp (s.data.toList.drop p)))=true):=by
 have e1:aa2 aa7 (s.data.toList.drop p)=0:=by rw [aci aa7 s p h,if_neg (by rw [hb];decide)]
 have e2:aa2 aa1 (s.data.toList.drop p)=0:=by rw [aci aa1 s p h,if_neg (by rw [hb];decide)]
 have hl:=text_le (s.data.toList.drop p)
 have hz:(s.data.toList.drop p).length=s.size - p:=by simp
 obtain ⟨b,t,e,_,hbb⟩:=head_of s p h
 by_cases h1:0 < aav (s.data.toList.drop p)
 ·by_cases h2:acf (ag1 (s.data.toList.drop p) (aav (s.data.toList.drop p)))=true
  ·right
   have hr:adp (s.data.toList.drop p)=aav (s.data.toList.drop p):=by unfold adp;rw [if_pos ⟨h1,h2⟩]
   rw [hr]
   refine ⟨h1,?_,by omega,by omega,h2⟩
   unfold aao
   rw [e1,e2,if_neg (by omega),if_neg (by omega),if_pos h1,if_pos h2]
  ·left
   refine ⟨by unfold adp;rw [if_neg (fun g=>h2 g.2)],?_⟩
   unfold aao
   rw [e1,e2,if_neg (by omega),if_neg (by omega),if_pos h1,if_neg h2]
 ·left
  refine ⟨by unfold adp;rw [if_neg (fun g=>h1 g.1)],?_⟩
  unfold aao
  rw [e1,e2,if_neg (by omega),if_neg (by omega),if_neg h1]
  show af1 (s.data.toList.drop p)=0
  rw [e]
  have h34:b.toNat=34:=by omega
  have e34:b=34:=UInt8.toNat_inj.1 h34
  unfold af1
  rw [if_neg]
  ·simp only [];rw [if_neg];subst e34;decide
  ·subst e34
   rw [List.contains_iff_mem,List.take_succ_cons]
   intro g
   have key:∀ x ∈ twos,x.head?≠some 34:=by decide
   exact key _ g rfl
theorem w_text (s:ByteArray) (p:Nat) (w:World) (hs:s.size≤1048576) (hp:p < s.size) (h34:bt s p=34):aay s p w:=by
 have hc:=first_34 s p hp h34
 obtain ⟨n,hn⟩:∃ n,adp (s.data.toList.drop p)=n:=⟨_,rfl⟩
 have HT:Hid (∀ w,Calls Tryz.prog 83 #[.string s,.int .i64 (p:Nat)] w fun e w'=>e=.returned (.int .i64 (n:Nat))∧Below w.heap.size w w'):=by
  show ∀ w,_
  intro w;have:=rtext_any s p w hs hp h34;rw [hn] at this;exact this
 rw [hn] at hc
 unfold aay
 have hbt:=abu s p hp
 rcases hc with ⟨hz,h0⟩|⟨hpos,hf,h2,hle,hpo⟩
 ·subst hz
  have h1:=one_none_w s p hp (by omega) (by omega) h0
  have H1:=ke h1;clear h1 hn h0
  rw [h34] at hbt;clear h34
  go_enter Tryz.func45,Tryz.ntmps45
  go_wp2_with (first
   | (go_at_call 81;refine (aax _ _).mono ?_;rintro e w1 ⟨rfl,rfl⟩)
   | (go_at_call 82;refine (aa0 34 (by decide) _).mono ?_;rintro e w1 ⟨rfl,rfl⟩)
   | (go_at_call 83;refine (HT.out _).mono ?_;clear HT;rintro e w1 ⟨rfl,hb⟩;have hx:=(Bx.new w #[.int .i64 0,.string ⟨#[]⟩,.int .i64 0] 94).next hb;have hB:=aeg hb;clear hb;obtain ⟨c0,c1,c2,c3⟩:=hx.get3))
  refine bodyPost_ret (v:=.tuple #[.agg #[.int .i64 0,.string ⟨#[]⟩,.int .i64 0],.int .i64 0]) (by simp [results,Tryz.results45,go_sem,c0,c1,c2,c3]) rfl ⟨aby (k:=0) (n:=0) (t:=⟨#[]⟩) H1.out (aeu _ _ _ _ _ H1.out rfl),below3 hB (Nat.le_refl _) _ _ _⟩
 ·have h1:=akf s p hp (by omega) (by omega) _ _ _ hf (by omega)
  have HA:=ke (ah0 _ p _ _ _ h1 (by decide))
  obtain ⟨t,ht⟩:∃ t:ByteArray,t=⟨(abf (ag1 (s.data.toList.drop p) n)).toArray⟩:=⟨_,rfl⟩
  have H1:Hid (aep (s.data.toList.drop p)=(3,t.data.toList,n)):=by
   show aep (s.data.toList.drop p)=(3,t.data.toList,n)
   rw [h1,ht]
  have hin:=inner_at s p (p+n - 1) (by omega) (by omega)
  rw [show p+n - 1 - p+1=n from by omega] at hin
  have HP:Hid (∀ w,Calls Tryz.prog 84 #[.string (s.extract (p+1) (p+n - 1))] w fun e w'=>e=.returned (.tuple #[.string t,.bool true])∧Below w.heap.size w w'):=by
   show ∀ w,_
   intro w;have:=ajo (s.extract (p+1) (p+n - 1)) w (by simp;omega);rw [hin,hpo,← ht,← hin] at this;exact this
  have hsl:∀ w:World,(Instr.slice 9 (.string s) (some (.int .i64 ((p:Int)+1))) (some (.int .i64 ((p:Int)+(n:Int) - 1))) none).run Tryz.prog w=.ok (.string (s.extract (p+1) (p+n - 1))) w:=by
   intro w
   have:=run_slice_string (P:=Tryz.prog) (w:=w) 9 s .i64 .i64 ((p:Int)+1) ((p:Int)+(n:Int) - 1) Tryz.underlying9 (by omega) (by omega) (by omega)
   rw [show ((p:Int)+1).toNat=p+1 from by omega,show ((p:Int)+(n:Int) - 1).toNat=p+n - 1 from by omega] at this
   exact this
  clear h1 hn hf hpo hin ht
  rw [h34] at hbt;clear h34
  go_enter Tryz.func45,Tryz.ntmps45
  go_wp2_with (first
   | (go_at_call 81;refine (aax _ _).mono ?_;rintro e w1 ⟨rfl,rfl⟩)
   | (go_at_call 82;refine (aa0 34 (by decide) _).mono ?_;rintro e w1 ⟨rfl,rfl⟩)
   | (go_at_call 83;refine (HT.out _).mono ?_;clear HT;rintro e w1 ⟨rfl,hb⟩;have hx:=(Bx.new w #[.int .i64 0,.string ⟨#[]⟩,.int .i64 0] 94).next hb;have hB:=aeg hb;clear hb)
   | (go_at_call 84;refine (HP.out _).mono ?_;clear HP;rintro e w1 ⟨rfl,hb⟩;replace hx:=hx.next hb;replace hB:=hB.trans (hb.mono hB.size);clear hb;obtain ⟨c0,c1,c2,c3⟩:=hx.get3))
  refine bodyPost_ret (v:=.tuple #[.agg #[.int .i64 3,.string t,.int .i64 (p:Nat)],.int .i64 (n:Nat)]) (by simp [results,Tryz.results45,go_sem,c0,c1,c2,c3]) rfl ⟨aby (k:=3) (t:=t) H1.out HA.out,below3 hB (Nat.le_refl _) _ _ _⟩
def twosT:List ByteArray:=[⟨#[58,58]⟩,⟨#[60,61]⟩,⟨#[61,61]⟩,⟨#[33,61]⟩,⟨#[38,38]⟩,⟨#[124,124]⟩]
def aju:List ByteArray:=[⟨#[123]⟩,⟨#[125]⟩,⟨#[40]⟩,⟨#[41]⟩,⟨#[59]⟩,⟨#[44]⟩,⟨#[46]⟩,⟨#[61]⟩,⟨#[60]⟩,⟨#[43]⟩,⟨#[45]⟩,⟨#[42]⟩,⟨#[47]⟩,⟨#[37]⟩,⟨#[33]⟩,⟨#[35]⟩,⟨#[64]⟩]
theorem onesT_is (x:ByteArray) (b:UInt8) (h:x.data.toList=[b]):acb aju x=ones.contains b:=by
 unfold acb
 rw [h]
 simp only [aju,ones,List.map_cons,List.map_nil,List.contains_cons,List.contains_nil]
 have e:∀ c:UInt8,([b] == (#[c]:Array UInt8).toList)=(b == c):=by intro c;simp
 simp only [e]
theorem cells_lit2 (b:Nat) (w:World) (T:TypeId) (vs:Array Value) (ss:List ByteArray) (h:vs=(ss.map Value.string).toArray) (hb:b=w.heap.size):∀ k:Nat,k < ss.length→(w.alloc (.cells vs T)).cell? ⟨b,0+k,none⟩=some (.string (ss.getD k ByteArray.empty)):=by
 subst hb;exact cells_lit w T vs ss h
theorem first_sign (s:ByteArray) (p:Nat) (h:p < s.size) (ha:aa1 (bt s p:Nat)=false) (h34:bt s p≠34):aao (s.data.toList.drop p)=(4,(s.data.toList.drop p).take (af1 (s.data.toList.drop p)),af1 (s.data.toList.drop p)):=by
 obtain ⟨b,t,e,_,hbb⟩:=head_of s p h
 have hd:aa7 (bt s p:Nat)=false:=(al0 ha).2.2
 have e1:aa2 aa7 (s.data.toList.drop p)=0:=by rw [aci aa7 s p h,if_neg (by rw [hd];simp)]
 have e2:aa2 aa1 (s.data.toList.drop p)=0:=by rw [aci aa1 s p h,if_neg (by rw [ha];simp)]
 have e3:aav (s.data.toList.drop p)=0:=by rw [e,aav,if_neg (by omega)]
 unfold aao
 rw [e1,e2,e3,if_neg (by omega),if_neg (by omega),if_neg (by omega)]
theorem mark2 (l:List UInt8) (h:twos.contains (l.take 2)=true):af1 l=2:=by unfold af1;rw [if_pos h]
theorem mark1 (s:ByteArray) (p:Nat) (h:p < s.size) (hn:twos.contains ((s.data.toList.drop p).take 2)=false):af1 (s.data.toList.drop p)=if ones.contains (s.get! p)=true then 1 else 0:=by
 obtain ⟨b,e,_,hg⟩:=ad1 s p h
 unfold af1
 rw [if_neg (by rw [hn];simp),e,← hg]
theorem ex_oneR (s:ByteArray) (p:Nat) (h:p < s.size):(s.extract p (p+1)).data.toList=[s.get! p]:=by
 obtain ⟨b,e,_,hg⟩:=ad1 s p h
 rw [agw,e,← hg];rfl
theorem short_no (s:ByteArray) (p:Nat) (h:s.size < p+2):twos.contains ((s.data.toList.drop p).take 2)=false:=by
 rw [Bool.eq_false_iff]
 intro hm
 rw [List.contains_iff_mem] at hm
 have key:∀ x ∈ twos,x.length=2:=by decide
 have:=key _ hm
 rw [List.length_take,List.length_drop] at this
 have hl:s.data.toList.length=s.size:=by simp
 omega
def in2 (x:ByteArray):Bool:=twos.contains x.data.toList
theorem ajz (w:World) (b:Nat) (x:ByteArray) (hb:b=w.heap.size):Calls Tryz.prog 85 #[.slice (some ⟨b,0,none⟩) 6 6,.string x] (w.alloc (.cells #[.string ⟨#[58,58]⟩,.string ⟨#[60,61]⟩,.string ⟨#[61,61]⟩,.string ⟨#[33,61]⟩,.string ⟨#[38,38]⟩,.string ⟨#[124,124]⟩] 9)) fun e w'=>e=.returned (.bool (in2 x))∧(w.alloc (.cells #[.string ⟨#[58,58]⟩,.string ⟨#[60,61]⟩,.string ⟨#[61,61]⟩,.string ⟨#[33,61]⟩,.string ⟨#[38,38]⟩,.string ⟨#[124,124]⟩] 9))=w' :=
 in_any b 0 6 6 twosT x _ rfl (by decide) (cells_lit2 b w _ _ twosT rfl hb)
theorem ahh (w:World) (b:Nat) (x:ByteArray) (hb:b=w.heap.size):Calls Tryz.prog 85 #[.slice (some ⟨b,0,none⟩) 17 17,.string x] (w.alloc (.cells #[.string ⟨#[123]⟩,.string ⟨#[125]⟩,.string ⟨#[40]⟩,.string ⟨#[41]⟩,.string ⟨#[59]⟩,.string ⟨#[44]⟩,.string ⟨#[46]⟩,.string ⟨#[61]⟩,.string ⟨#[60]⟩,.string ⟨#[43]⟩,.string ⟨#[45]⟩,.string ⟨#[42]⟩,.string ⟨#[47]⟩,.string ⟨#[37]⟩,.string ⟨#[33]⟩,.string ⟨#[35]⟩,.string ⟨#[64]⟩] 9)) fun e w'=>e=.returned (.bool (acb aju x))∧(w.alloc (.cells #[.string ⟨#[123]⟩,.string ⟨#[125]⟩,.string ⟨#[40]⟩,.string ⟨#[41]⟩,.string ⟨#[59]⟩,.string ⟨#[44]⟩,.string ⟨#[46]⟩,.string ⟨#[61]⟩,.string ⟨#[60]⟩,.string ⟨#[43]⟩,.string ⟨#[45]⟩,.string ⟨#[42]⟩,.string ⟨#[47]⟩,.string ⟨#[37]⟩,.string ⟨#[33]⟩,.string ⟨#[35]⟩,.string ⟨#[64]⟩] 9))=w' :=
 in_any b 0 17 17 aju x _ rfl (by decide) (cells_lit2 b w _ _ aju rfl hb)
end
section
open Go.RowKit
theorem sg_none_A0 (s:ByteArray) (p:Nat) (w:World) (hs:s.size≤1048576) (hp:p < s.size) (ha:aa1 (bt s p:Nat)=false) (hbl:¬ (bt s p=32∨bt s p=9∨bt s p=10∨bt s p=13)) (h34:bt s p≠34) (h1:aep (s.data.toList.drop p)=(0,[],0)) (hp2:(s.size:Int) < (p:Int)+2) (hm1T:acb aju (s.extract p (p+1))=false) (z5:(((bt s p:Nat):Int) == 47)=false):aay s p w:=by
 unfold aay
 have hd:aa7 (bt s p:Nat)=false:=(al0 ha).2.2
 have hbt:=abu s p hp
 have h256:=ac2 s p
 have z1:(((bt s p:Nat):Int) == 32)=false:=by rw [beq_eq_false_iff_ne];omega
 have z2:(((bt s p:Nat):Int) == 9)=false:=by rw [beq_eq_false_iff_ne];omega
 have z3:(((bt s p:Nat):Int) == 10)=false:=by rw [beq_eq_false_iff_ne];omega
 have z4:(((bt s p:Nat):Int) == 13)=false:=by rw [beq_eq_false_iff_ne];omega
 have z34:(((bt s p:Nat):Int) == 34)=false:=by rw [beq_eq_false_iff_ne];omega
 have i1:((p:Int)+1).toNat=p+1:=by omega
 have i2:0≤(p:Int)+1:=by omega
 have i3:(p:Int)+1≤s.size:=by omega
 have i4:(p:Int)≤(p:Int)+1:=by omega
 have HONE:=ke ahh
 have H1:=ke h1;clear h1
 clear hbl h34
 go_enter Tryz.func45,Tryz.ntmps45
 go_wp2_with (first|(go_at_call 81;refine (aax _ _).mono ?_;rintro e w1 ⟨rfl,rfl⟩)|(go_at_call 82;refine (aa0 _ (by assumption) _).mono ?_;rintro e w1 ⟨rfl,rfl⟩)|(go_at_call 85;refine (HONE.out _ _ _ ?_).mono ?_;rotate_left;clear HONE;rintro e w1 ⟨rfl,rfl⟩;rotate_left;simp))
 exact bodyPost_ret (v:=.tuple #[.agg #[.int .i64 0,.string ⟨#[]⟩,.int .i64 0],.int .i64 0]) (by simp [results,Tryz.results45,go_sem]) rfl ⟨aby (k:=0) (n:=0) (t:=⟨#[]⟩) H1.out (aeu _ _ _ _ _ H1.out rfl),(aag _ _ _).alloc (by simp<;>omega) _⟩
theorem sg_none_A1 (s:ByteArray) (p:Nat) (w:World) (hs:s.size≤1048576) (hp:p < s.size) (ha:aa1 (bt s p:Nat)=false) (hbl:¬ (bt s p=32∨bt s p=9∨bt s p=10∨bt s p=13)) (h34:bt s p≠34) (h1:aep (s.data.toList.drop p)=(0,[],0)) (hp2:(s.size:Int) < (p:Int)+2) (hm1T:acb aju (s.extract p (p+1))=false) (z5:(((bt s p:Nat):Int) == 47)=true) (j1:(s.size:Int)≤(p:Int)+1):aay s p w:=by
 unfold aay
 have hd:aa7 (bt s p:Nat)=false:=(al0 ha).2.2
 have hbt:=abu s p hp
 have h256:=ac2 s p
 have z1:(((bt s p:Nat):Int) == 32)=false:=by rw [beq_eq_false_iff_ne];omega
 have z2:(((bt s p:Nat):Int) == 9)=false:=by rw [beq_eq_false_iff_ne];omega
 have z3:(((bt s p:Nat):Int) == 10)=false:=by rw [beq_eq_false_iff_ne];omega
 have z4:(((bt s p:Nat):Int) == 13)=false:=by rw [beq_eq_false_iff_ne];omega
 have z34:(((bt s p:Nat):Int) == 34)=false:=by rw [beq_eq_false_iff_ne];omega
 have i1:((p:Int)+1).toNat=p+1:=by omega
 have i2:0≤(p:Int)+1:=by omega
 have i3:(p:Int)+1≤s.size:=by omega
 have i4:(p:Int)≤(p:Int)+1:=by omega
 have HONE:=ke ahh
 have H1:=ke h1;clear h1
 clear hbl h34
 go_enter Tryz.func45,Tryz.ntmps45
 go_wp2_with (first|(go_at_call 81;refine (aax _ _).mono ?_;rintro e w1 ⟨rfl,rfl⟩)|(go_at_call 82;refine (aa0 _ (by assumption) _).mono ?_;rintro e w1 ⟨rfl,rfl⟩)|(go_at_call 85;refine (HONE.out _ _ _ ?_).mono ?_;rotate_left;clear HONE;rintro e w1 ⟨rfl,rfl⟩;rotate_left;simp))
 exact bodyPost_ret (v:=.tuple #[.agg #[.int .i64 0,.string ⟨#[]⟩,.int .i64 0],.int .i64 0]) (by simp [results,Tryz.results45,go_sem]) rfl ⟨aby (k:=0) (n:=0) (t:=⟨#[]⟩) H1.out (aeu _ _ _ _ _ H1.out rfl),(aag _ _ _).alloc (by simp<;>omega) _⟩
theorem sg_none_B0 (s:ByteArray) (p:Nat) (w:World) (hs:s.size≤1048576) (hp:p < s.size) (ha:aa1 (bt s p:Nat)=false) (hbl:¬ (bt s p=32∨bt s p=9∨bt s p=10∨bt s p=13)) (h34:bt s p≠34) (h1:aep (s.data.toList.drop p)=(0,[],0)) (hp2:(p:Int)+2≤s.size) (hm2T:in2 (s.extract p (p+2))=false) (hm1T:acb aju (s.extract p (p+1))=false) (z5:(((bt s p:Nat):Int) == 47)=false):aay s p w:=by
 unfold aay
 have hd:aa7 (bt s p:Nat)=false:=(al0 ha).2.2
 have hbt:=abu s p hp
 have h256:=ac2 s p
 have z1:(((bt s p:Nat):Int) == 32)=false:=by rw [beq_eq_false_iff_ne];omega
 have z2:(((bt s p:Nat):Int) == 9)=false:=by rw [beq_eq_false_iff_ne];omega
 have z3:(((bt s p:Nat):Int) == 10)=false:=by rw [beq_eq_false_iff_ne];omega
 have z4:(((bt s p:Nat):Int) == 13)=false:=by rw [beq_eq_false_iff_ne];omega
 have z34:(((bt s p:Nat):Int) == 34)=false:=by rw [beq_eq_false_iff_ne];omega
 have i1:((p:Int)+1).toNat=p+1:=by omega
 have i2:0≤(p:Int)+1:=by omega
 have i3:(p:Int)+1≤s.size:=by omega
 have i4:(p:Int)≤(p:Int)+1:=by omega
 have k1:((p:Int)+2).toNat=p+2:=by omega
 have k2:0≤(p:Int)+2:=by omega
 have k4:(p:Int)≤(p:Int)+2:=by omega
 have HTWO:=ke ajz
 have HONE:=ke ahh
 have H1:=ke h1;clear h1
 clear hbl h34
 go_enter Tryz.func45,Tryz.ntmps45
 go_wp2_with (first|(go_at_call 81;refine (aax _ _).mono ?_;rintro e w1 ⟨rfl,rfl⟩)|(go_at_call 82;refine (aa0 _ (by assumption) _).mono ?_;rintro e w1 ⟨rfl,rfl⟩)|(go_at_call 85;refine (HTWO.out _ _ _ ?_).mono ?_;rotate_left;clear HTWO;rintro e w1 ⟨rfl,rfl⟩;rotate_left;simp)|(go_at_call 85;refine (HONE.out _ _ _ ?_).mono ?_;rotate_left;clear HONE;rintro e w1 ⟨rfl,rfl⟩;rotate_left;simp))
 exact bodyPost_ret (v:=.tuple #[.agg #[.int .i64 0,.string ⟨#[]⟩,.int .i64 0],.int .i64 0]) (by simp [results,Tryz.results45,go_sem]) rfl ⟨aby (k:=0) (n:=0) (t:=⟨#[]⟩) H1.out (aeu _ _ _ _ _ H1.out rfl),((aag _ _ _).alloc (by simp<;>omega) _).alloc (by simp<;>omega) _⟩
theorem sg_none_B2 (s:ByteArray) (p:Nat) (w:World) (hs:s.size≤1048576) (hp:p < s.size) (ha:aa1 (bt s p:Nat)=false) (hbl:¬ (bt s p=32∨bt s p=9∨bt s p=10∨bt s p=13)) (h34:bt s p≠34) (h1:aep (s.data.toList.drop p)=(0,[],0)) (hp2:(p:Int)+2≤s.size) (hm2T:in2 (s.extract p (p+2))=false) (hm1T:acb aju (s.extract p (p+1))=false) (z5:(((bt s p:Nat):Int) == 47)=true) (j1:(p:Int)+1 < s.size) (j2:bt s (p+1)≠47) (j3:p+1 < s.size):aay s p w:=by
 unfold aay
 have hd:aa7 (bt s p:Nat)=false:=(al0 ha).2.2
 have hbt:=abu s p hp
 have h256:=ac2 s p
 have z1:(((bt s p:Nat):Int) == 32)=false:=by rw [beq_eq_false_iff_ne];omega
 have z2:(((bt s p:Nat):Int) == 9)=false:=by rw [beq_eq_false_iff_ne];omega
 have z3:(((bt s p:Nat):Int) == 10)=false:=by rw [beq_eq_false_iff_ne];omega
 have z4:(((bt s p:Nat):Int) == 13)=false:=by rw [beq_eq_false_iff_ne];omega
 have z34:(((bt s p:Nat):Int) == 34)=false:=by rw [beq_eq_false_iff_ne];omega
 have i1:((p:Int)+1).toNat=p+1:=by omega
 have i2:0≤(p:Int)+1:=by omega
 have i3:(p:Int)+1≤s.size:=by omega
 have i4:(p:Int)≤(p:Int)+1:=by omega
 have k1:((p:Int)+2).toNat=p+2:=by omega
 have k2:0≤(p:Int)+2:=by omega
 have k4:(p:Int)≤(p:Int)+2:=by omega
 have HTWO:=ke ajz
 have HONE:=ke ahh
 have hbt2:=abu s (p+1) j3
 have z6:(((bt s (p+1):Nat):Int) == 47)=false:=by rw [beq_eq_false_iff_ne];omega
 clear j2
 have H1:=ke h1;clear h1
 clear hbl h34
 go_enter Tryz.func45,Tryz.ntmps45
 go_wp2_with (first|(go_at_call 81;refine (aax _ _).mono ?_;rintro e w1 ⟨rfl,rfl⟩)|(go_at_call 82;refine (aa0 _ (by assumption) _).mono ?_;rintro e w1 ⟨rfl,rfl⟩)|(go_at_call 85;refine (HTWO.out _ _ _ ?_).mono ?_;rotate_left;clear HTWO;rintro e w1 ⟨rfl,rfl⟩;rotate_left;simp)|(go_at_call 85;refine (HONE.out _ _ _ ?_).mono ?_;rotate_left;clear HONE;rintro e w1 ⟨rfl,rfl⟩;rotate_left;simp))
 exact bodyPost_ret (v:=.tuple #[.agg #[.int .i64 0,.string ⟨#[]⟩,.int .i64 0],.int .i64 0]) (by simp [results,Tryz.results45,go_sem]) rfl ⟨aby (k:=0) (n:=0) (t:=⟨#[]⟩) H1.out (aeu _ _ _ _ _ H1.out rfl),((aag _ _ _).alloc (by simp<;>omega) _).alloc (by simp<;>omega) _⟩
end
section
open Go.RowKit
theorem sg_one_A0 (s:ByteArray) (p:Nat) (w:World) (hs:s.size≤1048576) (hp:p < s.size) (ha:aa1 (bt s p:Nat)=false) (hbl:¬ (bt s p=32∨bt s p=9∨bt s p=10∨bt s p=13)) (h34:bt s p≠34) (h1:aep (s.data.toList.drop p)=(4,(s.extract p (p+1)).data.toList,1)) (hA:oneA (s.data.toList.drop p) p=p) (hp2:(s.size:Int) < (p:Int)+2) (hm1T:acb aju (s.extract p (p+1))=true) (z5:(((bt s p:Nat):Int) == 47)=false):aay s p w:=by
 unfold aay
 have hd:aa7 (bt s p:Nat)=false:=(al0 ha).2.2
 have hbt:=abu s p hp
 have h256:=ac2 s p
 have z1:(((bt s p:Nat):Int) == 32)=false:=by rw [beq_eq_false_iff_ne];omega
 have z2:(((bt s p:Nat):Int) == 9)=false:=by rw [beq_eq_false_iff_ne];omega
 have z3:(((bt s p:Nat):Int) == 10)=false:=by rw [beq_eq_false_iff_ne];omega
 have z4:(((bt s p:Nat):Int) == 13)=false:=by rw [beq_eq_false_iff_ne];omega
 have z34:(((bt s p:Nat):Int) == 34)=false:=by rw [beq_eq_false_iff_ne];omega
 have i1:((p:Int)+1).toNat=p+1:=by omega
 have i2:0≤(p:Int)+1:=by omega
 have i3:(p:Int)+1≤s.size:=by omega
 have i4:(p:Int)≤(p:Int)+1:=by omega
 have HONE:=ke ahh
 have H1:=ke h1;clear h1
 have HA:=ke hA;clear hA
 clear hbl h34
 go_enter Tryz.func45,Tryz.ntmps45
 go_wp2_with (first|(go_at_call 81;refine (aax _ _).mono ?_;rintro e w1 ⟨rfl,rfl⟩)|(go_at_call 82;refine (aa0 _ (by assumption) _).mono ?_;rintro e w1 ⟨rfl,rfl⟩)|(go_at_call 85;refine (HONE.out _ _ _ ?_).mono ?_;rotate_left;clear HONE;rintro e w1 ⟨rfl,rfl⟩;rotate_left;simp))
 exact bodyPost_ret (v:=.tuple #[.agg #[.int .i64 4,.string (s.extract p (p+1)),.int .i64 (p:Nat)],.int .i64 1]) (by simp [results,Tryz.results45,go_sem]) rfl ⟨aby (k:=4) (n:=1) (t:=(s.extract p (p+1))) H1.out HA.out,(aag _ _ _).alloc (by simp<;>omega) _⟩
theorem sg_one_A1 (s:ByteArray) (p:Nat) (w:World) (hs:s.size≤1048576) (hp:p < s.size) (ha:aa1 (bt s p:Nat)=false) (hbl:¬ (bt s p=32∨bt s p=9∨bt s p=10∨bt s p=13)) (h34:bt s p≠34) (h1:aep (s.data.toList.drop p)=(4,(s.extract p (p+1)).data.toList,1)) (hA:oneA (s.data.toList.drop p) p=p) (hp2:(s.size:Int) < (p:Int)+2) (hm1T:acb aju (s.extract p (p+1))=true) (z5:(((bt s p:Nat):Int) == 47)=true) (j1:(s.size:Int)≤(p:Int)+1):aay s p w:=by
 unfold aay
 have hd:aa7 (bt s p:Nat)=false:=(al0 ha).2.2
 have hbt:=abu s p hp
 have h256:=ac2 s p
 have z1:(((bt s p:Nat):Int) == 32)=false:=by rw [beq_eq_false_iff_ne];omega
 have z2:(((bt s p:Nat):Int) == 9)=false:=by rw [beq_eq_false_iff_ne];omega
 have z3:(((bt s p:Nat):Int) == 10)=false:=by rw [beq_eq_false_iff_ne];omega
 have z4:(((bt s p:Nat):Int) == 13)=false:=by rw [beq_eq_false_iff_ne];omega
 have z34:(((bt s p:Nat):Int) == 34)=false:=by rw [beq_eq_false_iff_ne];omega
 have i1:((p:Int)+1).toNat=p+1:=by omega
 have i2:0≤(p:Int)+1:=by omega
 have i3:(p:Int)+1≤s.size:=by omega
 have i4:(p:Int)≤(p:Int)+1:=by omega
 have HONE:=ke ahh
 have H1:=ke h1;clear h1
 have HA:=ke hA;clear hA
 clear hbl h34
 go_enter Tryz.func45,Tryz.ntmps45
 go_wp2_with (first|(go_at_call 81;refine (aax _ _).mono ?_;rintro e w1 ⟨rfl,rfl⟩)|(go_at_call 82;refine (aa0 _ (by assumption) _).mono ?_;rintro e w1 ⟨rfl,rfl⟩)|(go_at_call 85;refine (HONE.out _ _ _ ?_).mono ?_;rotate_left;clear HONE;rintro e w1 ⟨rfl,rfl⟩;rotate_left;simp))
 exact bodyPost_ret (v:=.tuple #[.agg #[.int .i64 4,.string (s.extract p (p+1)),.int .i64 (p:Nat)],.int .i64 1]) (by simp [results,Tryz.results45,go_sem]) rfl ⟨aby (k:=4) (n:=1) (t:=(s.extract p (p+1))) H1.out HA.out,(aag _ _ _).alloc (by simp<;>omega) _⟩
theorem sg_one_B0 (s:ByteArray) (p:Nat) (w:World) (hs:s.size≤1048576) (hp:p < s.size) (ha:aa1 (bt s p:Nat)=false) (hbl:¬ (bt s p=32∨bt s p=9∨bt s p=10∨bt s p=13)) (h34:bt s p≠34) (h1:aep (s.data.toList.drop p)=(4,(s.extract p (p+1)).data.toList,1)) (hA:oneA (s.data.toList.drop p) p=p) (hp2:(p:Int)+2≤s.size) (hm2T:in2 (s.extract p (p+2))=false) (hm1T:acb aju (s.extract p (p+1))=true) (z5:(((bt s p:Nat):Int) == 47)=false):aay s p w:=by
 unfold aay
 have hd:aa7 (bt s p:Nat)=false:=(al0 ha).2.2
 have hbt:=abu s p hp
 have h256:=ac2 s p
 have z1:(((bt s p:Nat):Int) == 32)=false:=by rw [beq_eq_false_iff_ne];omega
 have z2:(((bt s p:Nat):Int) == 9)=false:=by rw [beq_eq_false_iff_ne];omega
 have z3:(((bt s p:Nat):Int) == 10)=false:=by rw [beq_eq_false_iff_ne];omega
 have z4:(((bt s p:Nat):Int) == 13)=false:=by rw [beq_eq_false_iff_ne];omega
 have z34:(((bt s p:Nat):Int) == 34)=false:=by rw [beq_eq_false_iff_ne];omega
 have i1:((p:Int)+1).toNat=p+1:=by omega
 have i2:0≤(p:Int)+1:=by omega
 have i3:(p:Int)+1≤s.size:=by omega
 have i4:(p:Int)≤(p:Int)+1:=by omega
 have k1:((p:Int)+2).toNat=p+2:=by omega
 have k2:0≤(p:Int)+2:=by omega
 have k4:(p:Int)≤(p:Int)+2:=by omega
 have HTWO:=ke ajz
 have HONE:=ke ahh
 have H1:=ke h1;clear h1
 have HA:=ke hA;clear hA
 clear hbl h34
 go_enter Tryz.func45,Tryz.ntmps45
 go_wp2_with (first|(go_at_call 81;refine (aax _ _).mono ?_;rintro e w1 ⟨rfl,rfl⟩)|(go_at_call 82;refine (aa0 _ (by assumption) _).mono ?_;rintro e w1 ⟨rfl,rfl⟩)|(go_at_call 85;refine (HTWO.out _ _ _ ?_).mono ?_;rotate_left;clear HTWO;rintro e w1 ⟨rfl,rfl⟩;rotate_left;simp)|(go_at_call 85;refine (HONE.out _ _ _ ?_).mono ?_;rotate_left;clear HONE;rintro e w1 ⟨rfl,rfl⟩;rotate_left;simp))
 exact bodyPost_ret (v:=.tuple #[.agg #[.int .i64 4,.string (s.extract p (p+1)),.int .i64 (p:Nat)],.int .i64 1]) (by simp [results,Tryz.results45,go_sem]) rfl ⟨aby (k:=4) (n:=1) (t:=(s.extract p (p+1))) H1.out HA.out,((aag _ _ _).alloc (by simp<;>omega) _).alloc (by simp<;>omega) _⟩
theorem sg_one_B2 (s:ByteArray) (p:Nat) (w:World) (hs:s.size≤1048576) (hp:p < s.size) (ha:aa1 (bt s p:Nat)=false) (hbl:¬ (bt s p=32∨bt s p=9∨bt s p=10∨bt s p=13)) (h34:bt s p≠34) (h1:aep (s.data.toList.drop p)=(4,(s.extract p (p+1)).data.toList,1)) (hA:oneA (s.data.toList.drop p) p=p) (hp2:(p:Int)+2≤s.size) (hm2T:in2 (s.extract p (p+2))=false) (hm1T:acb aju (s.extract p (p+1))=true) (z5:(((bt s p:Nat):Int) == 47)=true) (j1:(p:Int)+1 < s.size) (j2:bt s (p+1)≠47) (j3:p+1 < s.size):aay s p w:=by
 unfold aay
 have hd:aa7 (bt s p:Nat)=false:=(al0 ha).2.2
 have hbt:=abu s p hp
 have h256:=ac2 s p
 have z1:(((bt s p:Nat):Int) == 32)=false:=by rw [beq_eq_false_iff_ne];omega
 have z2:(((bt s p:Nat):Int) == 9)=false:=by rw [beq_eq_false_iff_ne];omega
 have z3:(((bt s p:Nat):Int) == 10)=false:=by rw [beq_eq_false_iff_ne];omega
 have z4:(((bt s p:Nat):Int) == 13)=false:=by rw [beq_eq_false_iff_ne];omega
 have z34:(((bt s p:Nat):Int) == 34)=false:=by rw [beq_eq_false_iff_ne];omega
 have i1:((p:Int)+1).toNat=p+1:=by omega
 have i2:0≤(p:Int)+1:=by omega
 have i3:(p:Int)+1≤s.size:=by omega
 have i4:(p:Int)≤(p:Int)+1:=by omega
 have k1:((p:Int)+2).toNat=p+2:=by omega
 have k2:0≤(p:Int)+2:=by omega
 have k4:(p:Int)≤(p:Int)+2:=by omega
 have HTWO:=ke ajz
 have HONE:=ke ahh
 have hbt2:=abu s (p+1) j3
 have z6:(((bt s (p+1):Nat):Int) == 47)=false:=by rw [beq_eq_false_iff_ne];omega
 clear j2
 have H1:=ke h1;clear h1
 have HA:=ke hA;clear hA
 clear hbl h34
 go_enter Tryz.func45,Tryz.ntmps45
 go_wp2_with (first|(go_at_call 81;refine (aax _ _).mono ?_;rintro e w1 ⟨rfl,rfl⟩)|(go_at_call 82;refine (aa0 _ (by assumption) _).mono ?_;rintro e w1 ⟨rfl,rfl⟩)|(go_at_call 85;refine (HTWO.out _ _ _ ?_).mono ?_;rotate_left;clear HTWO;rintro e w1 ⟨rfl,rfl⟩;rotate_left;simp)|(go_at_call 85;refine (HONE.out _ _ _ ?_).mono ?_;rotate_left;clear HONE;rintro e w1 ⟨rfl,rfl⟩;rotate_left;simp))
 exact bodyPost_ret (v:=.tuple #[.agg #[.int .i64 4,.string (s.extract p (p+1)),.int .i64 (p:Nat)],.int .i64 1]) (by simp [results,Tryz.results45,go_sem]) rfl ⟨aby (k:=4) (n:=1) (t:=(s.extract p (p+1))) H1.out HA.out,((aag _ _ _).alloc (by simp<;>omega) _).alloc (by simp<;>omega) _⟩
end
section
open Go.RowKit
theorem sg_two_B0 (s:ByteArray) (p:Nat) (w:World) (hs:s.size≤1048576) (hp:p < s.size) (ha:aa1 (bt s p:Nat)=false) (hbl:¬ (bt s p=32∨bt s p=9∨bt s p=10∨bt s p=13)) (h34:bt s p≠34) (h1:aep (s.data.toList.drop p)=(4,(s.extract p (p+2)).data.toList,2)) (hA:oneA (s.data.toList.drop p) p=p) (hp2:(p:Int)+2≤s.size) (hm2T:in2 (s.extract p (p+2))=true) (z5:(((bt s p:Nat):Int) == 47)=false):aay s p w:=by
 unfold aay
 have hd:aa7 (bt s p:Nat)=false:=(al0 ha).2.2
 have hbt:=abu s p hp
 have h256:=ac2 s p
 have z1:(((bt s p:Nat):Int) == 32)=false:=by rw [beq_eq_false_iff_ne];omega
 have z2:(((bt s p:Nat):Int) == 9)=false:=by rw [beq_eq_false_iff_ne];omega
 have z3:(((bt s p:Nat):Int) == 10)=false:=by rw [beq_eq_false_iff_ne];omega
 have z4:(((bt s p:Nat):Int) == 13)=false:=by rw [beq_eq_false_iff_ne];omega
 have z34:(((bt s p:Nat):Int) == 34)=false:=by rw [beq_eq_false_iff_ne];omega
 have i1:((p:Int)+1).toNat=p+1:=by omega
 have i2:0≤(p:Int)+1:=by omega
 have i3:(p:Int)+1≤s.size:=by omega
 have i4:(p:Int)≤(p:Int)+1:=by omega
 have k1:((p:Int)+2).toNat=p+2:=by omega
 have k2:0≤(p:Int)+2:=by omega
 have k4:(p:Int)≤(p:Int)+2:=by omega
 have HTWO:=ke ajz
 have H1:=ke h1;clear h1
 have HA:=ke hA;clear hA
 clear hbl h34
 go_enter Tryz.func45,Tryz.ntmps45
 go_wp2_with (first|(go_at_call 81;refine (aax _ _).mono ?_;rintro e w1 ⟨rfl,rfl⟩)|(go_at_call 82;refine (aa0 _ (by assumption) _).mono ?_;rintro e w1 ⟨rfl,rfl⟩)|(go_at_call 85;refine (HTWO.out _ _ _ ?_).mono ?_;rotate_left;clear HTWO;rintro e w1 ⟨rfl,rfl⟩;rotate_left;simp))
 exact bodyPost_ret (v:=.tuple #[.agg #[.int .i64 4,.string (s.extract p (p+2)),.int .i64 (p:Nat)],.int .i64 2]) (by simp [results,Tryz.results45,go_sem]) rfl ⟨aby (k:=4) (n:=2) (t:=(s.extract p (p+2))) H1.out HA.out,(aag _ _ _).alloc (by simp<;>omega) _⟩
theorem sg_two_B2 (s:ByteArray) (p:Nat) (w:World) (hs:s.size≤1048576) (hp:p < s.size) (ha:aa1 (bt s p:Nat)=false) (hbl:¬ (bt s p=32∨bt s p=9∨bt s p=10∨bt s p=13)) (h34:bt s p≠34) (h1:aep (s.data.toList.drop p)=(4,(s.extract p (p+2)).data.toList,2)) (hA:oneA (s.data.toList.drop p) p=p) (hp2:(p:Int)+2≤s.size) (hm2T:in2 (s.extract p (p+2))=true) (z5:(((bt s p:Nat):Int) == 47)=true) (j1:(p:Int)+1 < s.size) (j2:bt s (p+1)≠47) (j3:p+1 < s.size):aay s p w:=by
 unfold aay
 have hd:aa7 (bt s p:Nat)=false:=(al0 ha).2.2
 have hbt:=abu s p hp
 have h256:=ac2 s p
 have z1:(((bt s p:Nat):Int) == 32)=false:=by rw [beq_eq_false_iff_ne];omega
 have z2:(((bt s p:Nat):Int) == 9)=false:=by rw [beq_eq_false_iff_ne];omega
 have z3:(((bt s p:Nat):Int) == 10)=false:=by rw [beq_eq_false_iff_ne];omega
 have z4:(((bt s p:Nat):Int) == 13)=false:=by rw [beq_eq_false_iff_ne];omega
 have z34:(((bt s p:Nat):Int) == 34)=false:=by rw [beq_eq_false_iff_ne];omega
 have i1:((p:Int)+1).toNat=p+1:=by omega
 have i2:0≤(p:Int)+1:=by omega
 have i3:(p:Int)+1≤s.size:=by omega
 have i4:(p:Int)≤(p:Int)+1:=by omega
 have k1:((p:Int)+2).toNat=p+2:=by omega
 have k2:0≤(p:Int)+2:=by omega
 have k4:(p:Int)≤(p:Int)+2:=by omega
 have HTWO:=ke ajz
 have hbt2:=abu s (p+1) j3
 have z6:(((bt s (p+1):Nat):Int) == 47)=false:=by rw [beq_eq_false_iff_ne];omega
 clear j2
 have H1:=ke h1;clear h1
 have HA:=ke hA;clear hA
 clear hbl h34
 go_enter Tryz.func45,Tryz.ntmps45
 go_wp2_with (first|(go_at_call 81;refine (aax _ _).mono ?_;rintro e w1 ⟨rfl,rfl⟩)|(go_at_call 82;refine (aa0 _ (by assumption) _).mono ?_;rintro e w1 ⟨rfl,rfl⟩)|(go_at_call 85;refine (HTWO.out _ _ _ ?_).mono ?_;rotate_left;clear HTWO;rintro e w1 ⟨rfl,rfl⟩;rotate_left;simp))
 exact bodyPost_ret (v:=.tuple #[.agg #[.int .i64 4,.string (s.extract p (p+2)),.int .i64 (p:Nat)],.int .i64 2]) (by simp [results,Tryz.results45,go_sem]) rfl ⟨aby (k:=4) (n:=2) (t:=(s.extract p (p+2))) H1.out HA.out,(aag _ _ _).alloc (by simp<;>omega) _⟩
end
section
open Go.RowKit
theorem w_sign (s:ByteArray) (p:Nat) (w:World) (hs:s.size≤1048576) (hp:p < s.size) (hbl:¬ (bt s p=32∨bt s p=9∨bt s p=10∨bt s p=13)) (hnt:¬ (bt s p=47∧p+1 < s.size∧bt s (p+1)=47)) (ha:aa1 (bt s p:Nat)=false) (h34:bt s p≠34):aay s p w:=by
 have hf:=first_sign s p hp ha h34
 have h1:=fun k n t=>akf s p hp hbl hnt k n t
 have h0:=one_none_w s p hp hbl hnt
 have hz5:((((bt s p:Nat):Int) == 47)=false)∨((((bt s p:Nat):Int) == 47)=true∧(s.size:Int)≤(p:Int)+1)∨((((bt s p:Nat):Int) == 47)=true∧(p:Int)+1 < s.size∧bt s (p+1)≠47∧p+1 < s.size):=by
  by_cases h47:bt s p=47
  ·right
   by_cases h1:p+1 < s.size
   ·right;exact ⟨by rw [beq_iff_eq];omega,by omega,fun e=>hnt ⟨h47,h1,e⟩,h1⟩
   ·left;exact ⟨by rw [beq_iff_eq];omega,by omega⟩
  ·left;rw [beq_eq_false_iff_ne];omega
 cases m2:twos.contains ((s.data.toList.drop p).take 2)
 ·have hm:=mark1 s p hp m2
  have hm1T:=onesT_is (s.extract p (p+1)) _ (ex_oneR s p hp)
  have hp2:(s.size:Int) < (p:Int)+2∨((p:Int)+2≤s.size∧in2 (s.extract p (p+2))=false):=by
   by_cases h:p+2≤s.size
   ·right;exact ⟨by omega,by rw [in2,agw];exact m2⟩
   ·left;omega
  cases m1:ones.contains (s.get! p)
  ·rw [m1] at hm hm1T
   have hno:=h0 (by rw [hf];simp only [];rw [hm];rfl)
   rcases hp2 with hp2|⟨hp2,hm2T⟩
   ·rcases hz5 with z5|⟨z5,j1⟩|⟨z5,j1,j2,j3⟩
    ·exact sg_none_A0 s p w hs hp ha hbl h34 hno hp2 hm1T z5
    ·exact sg_none_A1 s p w hs hp ha hbl h34 hno hp2 hm1T z5 j1
    ·omega
   ·rcases hz5 with z5|⟨z5,j1⟩|⟨z5,j1,j2,j3⟩
    ·exact sg_none_B0 s p w hs hp ha hbl h34 hno hp2 hm2T hm1T z5
    ·omega
    ·exact sg_none_B2 s p w hs hp ha hbl h34 hno hp2 hm2T hm1T z5 j1 j2 j3
  ·rw [m1] at hm hm1T
   rw [if_pos rfl] at hm
   rw [hm] at hf
   have hyes:=h1 _ _ _ hf (by decide)
   have hA:=ah0 _ p _ _ _ hyes (by decide)
   rw [← agw] at hyes
   rcases hp2 with hp2|⟨hp2,hm2T⟩
   ·rcases hz5 with z5|⟨z5,j1⟩|⟨z5,j1,j2,j3⟩
    ·exact sg_one_A0 s p w hs hp ha hbl h34 hyes hA hp2 hm1T z5
    ·exact sg_one_A1 s p w hs hp ha hbl h34 hyes hA hp2 hm1T z5 j1
    ·omega
   ·rcases hz5 with z5|⟨z5,j1⟩|⟨z5,j1,j2,j3⟩
    ·exact sg_one_B0 s p w hs hp ha hbl h34 hyes hA hp2 hm2T hm1T z5
    ·omega
    ·exact sg_one_B2 s p w hs hp ha hbl h34 hyes hA hp2 hm2T hm1T z5 j1 j2 j3
 ·have hp2:(p:Int)+2≤s.size:=by
   apply Classical.byContradiction
   intro h
   rw [short_no s p (by omega)] at m2
   cases m2
  have hm2T:in2 (s.extract p (p+2))=true:=by rw [in2,agw];exact m2
  have hm:=mark2 _ m2
  rw [hm] at hf
  have hyes:=h1 _ _ _ hf (by decide)
  have hA:=ah0 _ p _ _ _ hyes (by decide)
  rw [← agw] at hyes
  rcases hz5 with z5|⟨z5,j1⟩|⟨z5,j1,j2,j3⟩
  ·exact sg_two_B0 s p w hs hp ha hbl h34 hyes hA hp2 hm2T z5
  ·omega
  ·exact sg_two_B2 s p w hs hp ha hbl h34 hyes hA hp2 hm2T z5 j1 j2 j3
theorem onew_any (s:ByteArray) (p:Nat) (w:World) (hs:s.size≤1048576) (hp:p < s.size):aay s p w:=by
 by_cases hbl:bt s p=32∨bt s p=9∨bt s p=10∨bt s p=13
 ·exact w_blank s p w hs hp hbl
 by_cases hnt:bt s p=47∧p+1 < s.size∧bt s (p+1)=47
 ·exact w_note s p w hs hp hnt.1 hnt.2.1 hnt.2.2
 by_cases h34:bt s p=34
 ·exact w_text s p w hs hp h34
 cases hd:aa7 (bt s p:Nat)
 ·cases ha:aa1 (bt s p:Nat)
  ·exact w_sign s p w hs hp hbl hnt ha h34
  ·exact w_name s p w hs hp hd ha
 ·exact w_digits s p w hs hp hd
end
section
open Go.RowKit
/-! ### One step along a text -/
theorem gap_over10:∀ l:List UInt8,aed true l=aa2 (fun r=>!(r == 10)) l+aed false (l.drop (aa2 (fun r=>!(r == 10)) l))
 | []=>rfl
 | b :: t=>by
  rw [span_cons]
  by_cases h:b.toNat=10
  ·rw [if_neg (by rw [h];decide),List.drop_zero,aed,if_pos h,aed,if_pos h];omega
  ·have ih:=gap_over10 t
   have hb:(!(((b.toNat:Nat):Int) == 10))=true:=by simp;omega
   rw [if_pos hb,List.drop_succ_cons,aed,if_neg h,if_pos rfl,ih];omega
theorem gap_blank1 (l:List UInt8) (h:af2 l=true):aed false l=1+aed false (l.drop 1):=by
 cases l with
 | nil=>simp [af2] at h
 | cons b t =>
  simp only [af2,Bool.or_eq_true,beq_iff_eq] at h
  rw [aed,List.drop_succ_cons,List.drop_zero]
  by_cases h10:b.toNat=10
  ·rw [if_pos h10];omega
  ·rw [if_neg h10,if_neg (by simp),if_pos]
   ·omega
   ·simp only [afu,Bool.or_eq_true,beq_iff_eq];omega
theorem gap_note1 (l:List UInt8) (h:aj8 l=true):aed false l=ag0 l+aed false (l.drop (ag0 l)):=by
 unfold aj8 at h
 rw [Bool.and_eq_true,beq_iff_eq,beq_iff_eq] at h
 obtain ⟨h1,h2⟩:=h
 cases l with
 | nil=>simp at h1
 | cons b t =>
  rw [List.head?_cons,Option.some_inj] at h1
  subst h1
  rw [List.drop_succ_cons,List.drop_zero] at h2
  have e:ag0 (47 :: t)=1+aa2 (fun r=>!(r == 10)) t:=by unfold ag0;rw [List.drop_succ_cons,List.drop_zero]
  rw [e,aed,if_neg (by decide),if_neg (by simp),if_neg (by decide),if_pos ⟨by decide,h2⟩,gap_over10 t,show 1+aa2 (fun r=>!(r == 10)) t=aa2 (fun r=>!(r == 10)) t+1 from by omega,List.drop_succ_cons];omega
theorem gap_none (l:List UInt8) (h1:¬ (af2 l=true)) (h2:¬ (aj8 l=true)):aed false l=0:=by
 cases l with
 | nil=>rfl
 | cons b t =>
  simp only [af2,Bool.or_eq_true,beq_iff_eq] at h1
  unfold aj8 at h2
  rw [Bool.and_eq_true,beq_iff_eq,beq_iff_eq,List.head?_cons,List.drop_succ_cons,List.drop_zero,Option.some_inj] at h2
  rw [aed,if_neg (by omega),if_neg (by simp),if_neg,if_neg]
  ·rintro ⟨a,b⟩
   exact h2 ⟨UInt8.toNat_inj.1 a,b⟩
  ·simp only [afu,Bool.or_eq_true,beq_iff_eq];omega
theorem cut_skip (l:List UInt8) (a n:Nat) (h:aed false l=n+aed false (l.drop n)):acu l a=acu (l.drop n) (a+n):=by
 unfold acu
 rw [h,List.drop_drop,Nat.add_assoc]
theorem note_le (l:List UInt8) (h:l≠[]):ag0 l≤l.length:=by
 have:=aij (fun r=>!(r == 10)) (l.drop 1)
 have hp:0 < l.length:=List.length_pos_iff.2 h
 unfold ag0
 rw [List.length_drop] at this;omega
theorem one_len (l:List UInt8) (h:l≠[]):(aep l).2.2≤l.length:=by
 have hp:0 < l.length:=List.length_pos_iff.2 h
 have h1:=note_le l h
 have h2:=akm l
 unfold aep
 split
 ·simp only [];omega
 ·split
  ·exact h1
  ·split
   ·simp only [];omega
   ·exact h2
theorem one_step (l:List UInt8) (a:Nat) (h:l≠[]) :
 ((aep l).2.2=0∧acu l a=([],(a:Int))) ∨
 ((aep l).2.2≠0∧(aep l).1=0∧acu l a=acu (l.drop (aep l).2.2) (a+(aep l).2.2)) ∨
 ((aep l).2.2≠0∧(aep l).1≠0∧acu l a=(⟨(aep l).1,(aep l).2.1,a⟩ :: (acu (l.drop (aep l).2.2) (a+(aep l).2.2)).1,(acu (l.drop (aep l).2.2) (a+(aep l).2.2)).2)):=by
 by_cases h1:af2 l=true
 ·have e:aep l=(0,[],1):=by unfold aep;rw [if_pos h1]
  rw [e]
  exact .inr (.inl ⟨by decide,rfl,cut_skip l a 1 (gap_blank1 l h1)⟩)
 ·by_cases h2:aj8 l=true
  ·have e:aep l=(0,[],ag0 l):=by unfold aep;rw [if_neg h1,if_pos h2]
   rw [e]
   refine .inr (.inl ⟨?_,rfl,cut_skip l a _ (gap_note1 l h2)⟩)
   simp only [ag0];omega
  ·have hg:=gap_none l h1 h2
   have hc:acu l a=ach l a:=by unfold acu;rw [hg];rfl
   by_cases h3:(aao l).2.2=0
   ·have e:aep l=(0,[],0):=by unfold aep;rw [if_neg h1,if_neg h2,if_pos h3]
    rw [e,hc]
    exact .inl ⟨rfl,ajk l a h h3⟩
   ·have e:aep l=aao l:=by unfold aep;rw [if_neg h1,if_neg h2,if_neg h3]
    rw [e,hc]
    have hk:=first_kind l h3
    exact .inr (.inr ⟨h3,by omega,ajj l a h h3⟩)
/-! ### The answer, from what is known at a place -/
theorem ajq (s:ByteArray) (p:Nat):(acu (s.data.toList.drop p) p).2=-1∨(p:Int)≤(acu (s.data.toList.drop p) p).2:=by
 rcases cut_wrong (s.data.toList.drop p) p with h|h
 ·exact .inl h
 ·right;omega
theorem wrong_bad (s:ByteArray) (c:Int) (hc:(acu s.data.toList 0).2=c) (h0:0≤bad s) (h:c=-1∨bad s≤c):acn s=bad s:=by
 unfold acn
 rw [hc]
 split
 ·rfl
 ·rename_i g
  apply Classical.byContradiction
  intro e
  apply g
  refine ⟨h0,?_⟩
  rcases h with h|h
  ·left;omega
  ·right;omega
theorem wrong_cut (s:ByteArray) (c:Int) (hc:(acu s.data.toList 0).2=c) (h:bad s < 0∨(0≤c∧c < bad s)):acn s=c:=by
 unfold acn
 rw [hc,if_neg]
 rintro ⟨a,b⟩
 omega
theorem Tryz.infoRWord:(Tryz.prog.info? 94).map (fun i=>(i.zero,i.size,i.bytes))=some (some (.agg #[.int .i64 0,.string ⟨#[]⟩,.int .i64 0]),3,32):=by kernel_rfl
def afw (s:ByteArray) (w:World) (e:Ending) (w':World):Prop:=∃ v:Value,e=.returned (.tuple #[v,.int .i64 (aie s),.int .i64 (allA s)])∧w'.ownsRow w.heap.size 94 3 v (afv s).length (cellsW (afv s))∧Below w.heap.size w w'
theorem agd {s:ByteArray} {w W:World} {v:Value} {ws:List Wd} {x a:Int} (h1:afv s=ws) (h2:aie s=x) (h3:allA s=a) (ho:W.ownsRow w.heap.size 94 3 v ws.length (cellsW ws)) (hb:Below w.heap.size w W) :
 afw s w (.returned (.tuple #[v,.int .i64 x,.int .i64 a])) W:=⟨v,by rw [h2,h3],by rw [h1];exact ho,hb⟩
end
section
open Go.RowKit
theorem rel_skip (s:ByteArray) (p n:Nat) (acc:List Wd) (h:acu s.data.toList 0=(acc ++ (acu (s.data.toList.drop p) p).1,(acu (s.data.toList.drop p) p).2)) (hs:acu (s.data.toList.drop p) p=acu ((s.data.toList.drop p).drop n) (p+n)) :
 acu s.data.toList 0=(acc ++ (acu (s.data.toList.drop (p+n)) (p+n)).1,(acu (s.data.toList.drop (p+n)) (p+n)).2):=by
 rw [h,hs,List.drop_drop]
theorem rel_word (s:ByteArray) (p n:Nat) (acc:List Wd) (x:Wd) (h:acu s.data.toList 0=(acc ++ (acu (s.data.toList.drop p) p).1,(acu (s.data.toList.drop p) p).2)) (hs:acu (s.data.toList.drop p) p=(x :: (acu ((s.data.toList.drop p).drop n) (p+n)).1,(acu ((s.data.toList.drop p).drop n) (p+n)).2)) :
 acu s.data.toList 0=((acc ++ [x]) ++ (acu (s.data.toList.drop (p+n)) (p+n)).1,(acu (s.data.toList.drop (p+n)) (p+n)).2):=by
 rw [h,hs,List.drop_drop];simp
theorem ahz (s:ByteArray) (w:World) (hs:s.size≤maxLen):Calls Tryz.prog 18 #[.string s] w (afw s w):=by
 unfold maxLen at hs
 by_cases h8:8000 < s.size
 ·have h8':(8000:Int) < s.size:=by omega
  obtain ⟨a1,a2,a3⟩:=all_long s h8
  have A1:=ke a1;have A2:=ke a2;have A3:=ke a3;clear a1 a2 a3
  go_enter Tryz.func18,Tryz.ntmps18
  go_wp2
  refine bodyPost_ret (v:=.tuple #[.slice none 0 0,.int .i64 5,.int .i64 0]) (by simp [results,Tryz.results18,go_sem]) rfl ?_
  exact agd A1.out A2.out A3.out (World.ownsRow_nil _ _ _ _) (Below.refl _ _)
 ·have h8':(s.size:Int)≤8000:=by omega
  obtain ⟨b,hb⟩:∃ b,bad s=b:=⟨_,rfl⟩
  have hbr:=bad_range s
  rw [hb] at hbr
  have HB:Hid (∀ w,Calls Tryz.prog 44 #[.string s] w fun e w'=>e=.returned (.int .i64 b)∧Below w.heap.size w w'):=by
   show ∀ w,_
   intro w;have:=rbad_any s w (by omega);rw [hb] at this;exact this
  have HBS:=ke hb;clear hb
  have H8:=ke h8;clear h8
  have hb1:-1≤b:=by omega
  have hb2:b < s.size:=by omega
  clear hbr
  obtain ⟨i0,hi,hz0,hz1,hz2⟩:=info_parts Tryz.infoRWord
  have H0:Hid (acu s.data.toList 0=([] ++ (acu (s.data.toList.drop 0) 0).1,(acu (s.data.toList.drop 0) 0).2)):=by
   show acu s.data.toList 0=([] ++ (acu (s.data.toList.drop 0) 0).1,(acu (s.data.toList.drop 0) 0).2)
   rw [List.drop_zero];rfl
  go_enter Tryz.func18,Tryz.ntmps18
  go_wp2_with (go_at_call 44;refine (HB.out _).mono ?_;clear HB;rintro e w1 ⟨rfl,hbw1⟩)
  go_loopw [6,7] (fun v6 v7 wr=>∃ (p:Nat) (acc:List Wd),v7=.int .i64 p∧p≤s.size∧wr.ownsRow w.heap.size 94 3 v6 acc.length (cellsW acc)∧Below w.heap.size w wr∧acc.length≤p∧(b < 0∨(p:Int)≤b)∧acu s.data.toList 0=(acc ++ (acu (s.data.toList.drop p) p).1,(acu (s.data.toList.drop p) p).2)) (fun v6 v7 wr=>s.size - (intOf v7).toNat)
  case atStart=>exact ⟨0,[],rfl,Nat.zero_le _,World.ownsRow_nil _ _ _ _,hbw1,Nat.zero_le _,by omega,H0.out⟩
  case round =>
   obtain ⟨p,acc,rfl,hp,hown,hbw,hal,hbp,hc⟩:=hrel
   clear H0 hbw1
   have hsz:=hbw.size
   have hrw:=ajq s p
   by_cases hlt:p < s.size
   ·have hpi:(p:Int) < s.size:=by omega
    by_cases hpb:(p:Int)=b
    ·have hw:acn s=b:=by
      rw [← HBS.out]
      refine wrong_bad s _ (by rw [hc]) (by rw [HBS.out];omega) ?_
      rw [HBS.out]
      rcases hrw with h|h
      ·exact .inl h
      ·right;omega
     obtain ⟨a1,a2,a3⟩:=afm s H8.out b hw (by omega)
     have A1:=ke a1;have A2:=ke a2;have A3:=ke a3
     have k1:((p:Int) == b)=true:=by rw [beq_iff_eq];exact hpb
     clear a1 a2 a3 hw hpb hrw hc
     go_wp2
     refine bodyPost_ret (v:=.tuple #[.slice none 0 0,.int .i64 2,.int .i64 b]) (by simp [results,Tryz.results18,go_sem]) rfl ?_
     exact agd A1.out A2.out A3.out (World.ownsRow_nil _ _ _ _) hbw
    ·have k1:((p:Int) == b)=false:=by rw [beq_eq_false_iff_ne];exact hpb
     have hst:=one_step (s.data.toList.drop p) p (drop_ne s p hlt)
     have hln:=one_len (s.data.toList.drop p) (drop_ne s p hlt)
     have HO:Hid (∀ w,aay s p w):=fun w=>onew_any s p w (by omega) hlt
     obtain ⟨k,t,n,hone⟩:∃ k t n,aep (s.data.toList.drop p)=(k,t,n):=⟨_,_,_,rfl⟩
     obtain ⟨ap,hap⟩:∃ ap,oneA (s.data.toList.drop p) p=ap:=⟨_,rfl⟩
     have hap2:k≠0→ap=p:=fun hk=>by rw [← hap];exact ah0 _ p _ _ _ hone hk
     obtain ⟨tb,htb⟩:∃ tb:ByteArray,tb=⟨t.toArray⟩:=⟨_,rfl⟩
     have HOW:Hid (∀ w,Calls Tryz.prog 45 #[.string s,.int .i64 (p:Nat)] w fun e w'=>e=.returned (.tuple #[.agg #[.int .i64 (k:Nat),.string tb,.int .i64 (ap:Nat)],.int .i64 (n:Nat)])∧Below w.heap.size w w'):=by
      show ∀ w,_
      intro w
      have:=HO.out w
      unfold aay at this
      rw [hone,hap,← htb] at this
      exact this
     rw [hone] at hst hln
     simp only [] at hst hln
     have hnl:p+n≤s.size:=by
      rw [List.length_drop] at hln;have:s.data.toList.length=s.size:=by simp
      omega
     clear HO hone hap hln
     rcases hst with ⟨hn0,hcut⟩|⟨hn0,hk0,hcut⟩|⟨hn0,hk0,hcut⟩
     ·subst hn0
      have hw:acn s=(p:Int):=by
       refine wrong_cut s _ (by rw [hc,hcut]) ?_
       rw [HBS.out]
       omega
      obtain ⟨a1,a2,a3⟩:=afm s H8.out p hw (by omega)
      have A1:=ke a1;have A2:=ke a2;have A3:=ke a3
      clear a1 a2 a3 hw hpb hrw hc hcut hap2 htb
      go_wp2_with (go_at_call 45;refine (HOW.out _).mono ?_;clear HOW;rintro e w2 ⟨rfl,hbo⟩)
      refine bodyPost_ret (v:=.tuple #[.slice none 0 0,.int .i64 2,.int .i64 (p:Nat)]) (by simp [results,Tryz.results18,go_sem]) rfl ?_
      exact agd A1.out A2.out A3.out (World.ownsRow_nil _ _ _ _) ((hbw.trans (hbo.mono hsz)).alloc (Nat.le_trans hsz hbo.size) _)
     ·subst hk0
      have hn1:((n:Int) == 0)=false:=by rw [beq_eq_false_iff_ne];omega
      by_cases hbn:0≤b∧b < (p:Int)+n
      ·have hw:acn s=b:=by
        have h3:=ajq s (p+n)
        rw [← HBS.out]
        refine wrong_bad s _ (by rw [hc,hcut,List.drop_drop]) (by rw [HBS.out];omega) ?_
        rw [HBS.out]
        omega
       obtain ⟨a1,a2,a3⟩:=afm s H8.out b hw (by omega)
       have A1:=ke a1;have A2:=ke a2;have A3:=ke a3
       obtain ⟨g1,g2⟩:=hbn
       clear a1 a2 a3 hw hpb hrw hc hcut hap2 htb hn0
       go_wp2_with (go_at_call 45;refine (HOW.out _).mono ?_;clear HOW;rintro e w2 ⟨rfl,hbo⟩)
       refine bodyPost_ret (v:=.tuple #[.slice none 0 0,.int .i64 2,.int .i64 b]) (by simp [results,Tryz.results18,go_sem]) rfl ?_
       exact agd A1.out A2.out A3.out (World.ownsRow_nil _ _ _ _) ((hbw.trans (hbo.mono hsz)).alloc (Nat.le_trans hsz hbo.size) _)
      ·have HC:=ke (rel_skip s p n acc hc hcut)
       have hbp2:b < 0∨((p+n:Nat):Int)≤b:=by omega
       have hpos:0 < n:=by omega
       have hcs:b < 0∨(0≤b∧(p:Int)+n≤b):=by omega
       clear hpb hrw hc hcut hap2 htb hn0 hbn hbp
       rcases hcs with g1|⟨g1,g2⟩
       all_goals go_wp2_with (go_at_call 45;refine (HOW.out _).mono ?_;clear HOW;rintro e w2 ⟨rfl,hbo⟩)
       all_goals go_roundw
       all_goals first
        | exact ⟨p+n,acc,by go_num,hnl,(abr hown hbo).alloc _,(hbw.trans (hbo.mono hsz)).alloc (Nat.le_trans hsz hbo.size) _,by omega,hbp2,HC.out⟩
        | (simp [intOf];omega)
     ·have hn1:((n:Int) == 0)=false:=by rw [beq_eq_false_iff_ne];omega
      obtain rfl:=hap2 hk0
      by_cases hbn:0≤b∧b < (ap:Int)+n
      ·have hw:acn s=b:=by
        have h3:=ajq s (ap+n)
        rw [← HBS.out]
        refine wrong_bad s _ (by rw [hc,hcut,List.drop_drop]) (by rw [HBS.out];omega) ?_
        rw [HBS.out]
        omega
       obtain ⟨a1,a2,a3⟩:=afm s H8.out b hw (by omega)
       have A1:=ke a1;have A2:=ke a2;have A3:=ke a3
       obtain ⟨g1,g2⟩:=hbn
       clear a1 a2 a3 hw hpb hrw hc hcut hap2 htb hn0
       go_wp2_with (go_at_call 45;refine (HOW.out _).mono ?_;clear HOW;rintro e w2 ⟨rfl,hbo⟩)
       refine bodyPost_ret (v:=.tuple #[.slice none 0 0,.int .i64 2,.int .i64 b]) (by simp [results,Tryz.results18,go_sem]) rfl ?_
       exact agd A1.out A2.out A3.out (World.ownsRow_nil _ _ _ _) ((hbw.trans (hbo.mono hsz)).alloc (Nat.le_trans hsz hbo.size) _)
      ·have HC:=ke (rel_word s ap n acc _ hc hcut)
       have hbp2:b < 0∨((ap+n:Nat):Int)≤b:=by omega
       have hpos:0 < n:=by omega
       have hkpos:0 < (k:Int):=by omega
       have hcs:b < 0∨(0≤b∧(ap:Int)+n≤b):=by omega
       have HTB:=ke htb
       clear hpb hrw hc hcut hap2 htb hn0 hbn hbp hk0
       rcases hcs with g1|⟨g1,g2⟩
       all_goals
        go_wp2_with (first|(go_at_call 45;refine (HOW.out _).mono ?_;clear HOW;rintro e w2 ⟨rfl,hbo⟩)|(at_builtin;refine wpList_append_own _ rfl (.tmp 45) (.tmp 47) 58 rfl w.heap.size 94 i0 _ 3 32 Tryz.underlying58 hi hz0 hz1 hz2 rfl (by decide) _ _ _ rfl (((abr hown hbo).alloc _).alloc _) ⟨w2.heap.size+1,0,none⟩ 1 1 [.int .i64 k,.string tb,.int .i64 ap] rfl rfl (new_cells w2 _ _ _ _ _) (three_one _ _ _) (by unfold maxLen;omega) (by omega) (by have:=hbo.size;simp;omega) ?_;intro v' w3 hown3 hgrow _))
        have hB3:Below w.heap.size w w3:=below_own ((((hbw.trans (hbo.mono hsz)).alloc (Nat.le_trans hsz hbo.size) _).alloc (by have:=hbo.size;simp;omega) _)) (((abr hown hbo).alloc _).alloc _) hgrow (by have:=hbo.size;simp;omega) (Nat.le_refl _)
        have hO3:w3.ownsRow w.heap.size 94 3 v' (acc ++ [(⟨k,t,ap⟩:Wd)]).length (cellsW (acc ++ [(⟨k,t,ap⟩:Wd)])):=by
         rw [cellsW_snoc,List.length_append];rw [HTB.out] at hown3;exact hown3
        have hal3:(acc ++ [(⟨k,t,ap⟩:Wd)]).length≤ap+n:=by simp;omega
        clear hown3 hgrow hown hbw hbo
        go_wp2
        go_roundw
        case rel=>exact ⟨ap+n,_,by go_num,hnl,hO3,hB3,hal3,hbp2,HC.out⟩
        case measure=>simp [intOf];omega
   ·have hbn:b < 0:=by omega
    have hcc:acu s.data.toList 0=(acc,-1):=by rw [hc,dropz s p hlt];simp [acu,aiq]
    have hw:acn s=-1:=wrong_cut s _ (by rw [hcc]) (by rw [HBS.out];omega)
    obtain ⟨a1,a2,a3⟩:=all_right s H8.out _ hw (by omega)
    rw [hcc] at a1
    have A1:=ke a1;have A2:=ke a2;have A3:=ke a3
    clear a1 a2 a3 hw hrw hc hcc
    go_wp2
    refine bodyPost_ret (v:=.tuple #[_,.int .i64 0,.int .i64 0]) (by simp [results,Tryz.results18,go_sem];rfl) rfl ?_
    exact agd A1.out A2.out A3.out hown hbw
end
section
open Go.RowKit
def orF (a b c d:Int):Int×Int:=if a=0∧b=0 then (c,d) else (a,b)
theorem or_end {w wr:World} {n:Nat} {T:TypeId} {x0 x1:Value} (h:Bx wr n #[x0,x1] T) (hb:Below n w wr) (p q:Value) (O:Obj) :
 (((wr.setCell ⟨n,0,none⟩ p).setCell ⟨n,1,none⟩ q).alloc O).cell? ⟨n,0,none⟩=some p∧(((wr.setCell ⟨n,0,none⟩ p).setCell ⟨n,1,none⟩ q).alloc O).cell? ⟨n,1,none⟩=some q∧Below n w (((wr.setCell ⟨n,0,none⟩ p).setCell ⟨n,1,none⟩ q).alloc O):=by
 have h2:=h.to_2 p q
 have h3:=h2.next ((Below.refl _ _).alloc (Nat.le_refl _) O)
 exact ⟨h3.all_2.1,h3.all_2.2,((hb.setCell (Nat.le_refl _) _).setCell (Nat.le_refl _) _).alloc (Nat.le_trans (Nat.le_of_lt h2.lt) (Nat.le_refl _)) O⟩
theorem or_end' {w wr:World} {n:Nat} {T:TypeId} {x0 x1:Value} (h:Bx wr n #[x0,x1] T) (hb:Below n w wr) (p q:Value) :
 ((wr.setCell ⟨n,0,none⟩ p).setCell ⟨n,1,none⟩ q).cell? ⟨n,0,none⟩=some p∧((wr.setCell ⟨n,0,none⟩ p).setCell ⟨n,1,none⟩ q).cell? ⟨n,1,none⟩=some q∧Below n w ((wr.setCell ⟨n,0,none⟩ p).setCell ⟨n,1,none⟩ q):=by
 have h2:=h.to_2 p q
 exact ⟨h2.all_2.1,h2.all_2.2,(hb.setCell (Nat.le_refl _) _).setCell (Nat.le_refl _) _⟩
theorem or_any (w:World) (g:Nat) (a b c d:Int) (x y:Int) (hr:orF a b c d=(x,y)) (k0:w.cell? ⟨g,0,none⟩=some (.int .i64 a)) (k1:w.cell? ⟨g,1,none⟩=some (.int .i64 b)) (k2:w.cell? ⟨g,2,none⟩=some (.int .i64 c)) (k3:w.cell? ⟨g,3,none⟩=some (.int .i64 d)) :
 Calls Tryz.prog 15 #[.slice (some ⟨g,0,none⟩) 2 2] w fun e w'=>e=.returned (.agg #[.int .i64 x,.int .i64 y])∧Below w.heap.size w w':=by
 have hlt:=World.block_lt_of_cell? w (a:=⟨g,0,none⟩) k0
 simp only at hlt
 obtain ⟨Wa,ha⟩:∃ W,w.alloc (.cells #[.int .i64 0,.int .i64 0] 52)=W:=⟨_,rfl⟩
 have ka:Below w.heap.size w Wa:=by rw [← ha];exact (Below.refl _ _).alloc (Nat.le_refl _) _
 have xa:Bx Wa w.heap.size #[.int .i64 0,.int .i64 0] 52:=by rw [← ha];exact Bx.new _ _ _
 have sa:Wa.heap.size=w.heap.size+1:=by rw [← ha];simp
 obtain ⟨Wb,hb⟩:∃ W,Wa.alloc (.cells #[.int .i64 0,.int .i64 0] 52)=W:=⟨_,rfl⟩
 have kb:Below Wa.heap.size Wa Wb:=by rw [← hb];exact (Below.refl _ _).alloc (Nat.le_refl _) _
 have xb:Bx Wb (w.heap.size+1) #[.int .i64 0,.int .i64 0] 52:=by rw [← hb,← sa];exact Bx.new _ _ _
 have HB0:Hid (Below w.heap.size w Wb):=ke (ka.trans (kb.mono ka.size))
 have HXA:=ke (xa.next kb)
 have HXB:=ke xb
 have HK:Hid (∀ (o:Nat) (u:Value),w.cell? ⟨g,o,none⟩=some u→Wb.cell? ⟨g,o,none⟩=some u):=ke fun o u hu=>Keep.below HB0.out _ _ hu
 have sb:Wb.heap.size=w.heap.size+2:=by rw [← hb];simp [sa]
 clear ka kb xa xb
 have q0:=HK.out 0 _ k0;have q1:=HK.out 1 _ k1;have q2:=HK.out 2 _ k2;have q3:=HK.out 3 _ k3
 have hgb:g < Wb.heap.size:=by omega
 have z0:=HXB.out.cell 0;have z1:=HXB.out.cell 1
 simp only [List.getElem?_toArray,List.getElem?_cons_succ,List.getElem?_cons_zero] at z0 z1
 have HR:=ke hr
 clear hr
 subst ha hb
 go_enter Tryz.func15,Tryz.ntmps15
 go_wp2_with fail
 go_loopw [8] (fun v8 wr=>∃ i:Nat,v8=.int .i64 i∧i≤2∧Below (w.heap.size+2) ((w.alloc (.cells #[.int .i64 0,.int .i64 0] 52)).alloc (.cells #[.int .i64 0,.int .i64 0] 52)) wr∧(1≤i→a=0∧b=0)∧(i=2→c=0∧d=0)) (fun v8 wr=>2 - (intOf v8).toNat)
 case atStart=>exact ⟨0,rfl,by omega,Below.refl _ _,by omega,by omega⟩
 case round =>
  obtain ⟨i,rfl,hi,hbr,hA,hC⟩:=hrel
  have hKr:∀ (k o:Nat) (u:Value),k < w.heap.size+2→((w.alloc (.cells #[.int .i64 0,.int .i64 0] 52)).alloc (.cells #[.int .i64 0,.int .i64 0] 52)).cell? ⟨k,o,none⟩=some u→wr.cell? ⟨k,o,none⟩=some u:=by
   intro k o u hk hu
   exact (World.cell?_of_block (a:=⟨k,o,none⟩) (hbr.block k hk)).trans hu
  have y0:=hKr _ _ _ (by omega) q0;have y1:=hKr _ _ _ (by omega) q1;have y2:=hKr _ _ _ (by omega) q2;have y3:=hKr _ _ _ (by omega) q3
  have x0:=hKr _ _ _ (by omega) z0;have x1:=hKr _ _ _ (by omega) z1
  have hrb:Bx wr w.heap.size #[.int .i64 0,.int .i64 0] 52:=(hbr.block _ (by omega)).trans HXA.out
  have f0:=hrb.fro 0;have f1:=hrb.fro 1;have r0:=hrb.cell 0;have r1:=hrb.cell 1
  simp only [List.getElem?_toArray,List.getElem?_cons_succ,List.getElem?_cons_zero] at r0 r1
  have hsz:=hbr.size
  simp only [sb] at hsz
  have hsr:w.heap.size < wr.heap.size:=by omega
  have hsr2:w.heap.size+1 < wr.heap.size:=by omega
  have hgr:g < wr.heap.size:=by omega
  have HBS:=ke hbr
  have HBR:=ke (HB0.out.trans (hbr.mono (by omega)))
  have HRB:=ke hrb
  clear hKr hrb q0 q1 q2 q3 z0 z1 k0 k1 k2 k3 hbr hsz
  have hii:i=0∨i=1∨i=2:=by omega
  rcases hii with rfl|rfl|rfl
  ·by_cases ha0:a=0
   ·by_cases hb0:b=0
    ·subst ha0 hb0
     go_wp2_with fail
     exact ⟨⟨1,rfl,by omega,HBS.out.alloc (by omega) _,by simp,by omega⟩,by simp [intOf]⟩
    ·subst ha0
     have hb':(b == 0)=false:=by simpa using hb0
     have hxy0:(0:Int)=x∧b=y:=by have:=HR.out;simpa [orF,hb0] using this
     obtain ⟨hx0,rfl⟩:=hxy0
     subst hx0
     go_wp2_with fail
     obtain ⟨e0,e1,e2⟩:=or_end HRB.out HBR.out (.int .i64 0) (.int .i64 b) (.cells #[.int .i64 0,.int .i64 b] 52)
     (try simp only [Exit.inBlock,Exit.then])
     exact bodyPost_ret (v:=.agg #[.int .i64 0,.int .i64 b]) (by simp [results,Tryz.results15,go_sem,e0,e1]) rfl ⟨rfl,e2⟩
   ·have ha':(a == 0)=false:=by simpa using ha0
    have hxy0:a=x∧b=y:=by have:=HR.out;simpa [orF,ha0] using this
    obtain ⟨rfl,rfl⟩:=hxy0
    go_wp2_with fail
    obtain ⟨e0,e1,e2⟩:=or_end HRB.out HBR.out (.int .i64 a) (.int .i64 b) (.cells #[.int .i64 a,.int .i64 b] 52)
    (try simp only [Exit.inBlock,Exit.then])
    exact bodyPost_ret (v:=.agg #[.int .i64 a,.int .i64 b]) (by simp [results,Tryz.results15,go_sem,e0,e1]) rfl ⟨rfl,e2⟩
  ·obtain ⟨rfl,rfl⟩:=hA (by omega)
   have hxy0:c=x∧d=y:=by have:=HR.out;simpa [orF] using this
   obtain ⟨rfl,rfl⟩:=hxy0
   by_cases hc0:c=0
   ·by_cases hd0:d=0
    ·subst hc0 hd0
     go_wp2_with fail
     exact ⟨⟨2,rfl,by omega,HBS.out.alloc (by omega) _,by simp,by simp⟩,by simp [intOf]⟩
    ·subst hc0
     have hb':(d == 0)=false:=by simpa using hd0
     go_wp2_with fail
     obtain ⟨e0,e1,e2⟩:=or_end HRB.out HBR.out (.int .i64 0) (.int .i64 d) (.cells #[.int .i64 0,.int .i64 d] 52)
     (try simp only [Exit.inBlock,Exit.then])
     exact bodyPost_ret (v:=.agg #[.int .i64 0,.int .i64 d]) (by simp [results,Tryz.results15,go_sem,e0,e1]) rfl ⟨rfl,e2⟩
   ·have ha':(c == 0)=false:=by simpa using hc0
    go_wp2_with fail
    obtain ⟨e0,e1,e2⟩:=or_end HRB.out HBR.out (.int .i64 c) (.int .i64 d) (.cells #[.int .i64 c,.int .i64 d] 52)
    (try simp only [Exit.inBlock,Exit.then])
    exact bodyPost_ret (v:=.agg #[.int .i64 c,.int .i64 d]) (by simp [results,Tryz.results15,go_sem,e0,e1]) rfl ⟨rfl,e2⟩
  ·obtain ⟨rfl,rfl⟩:=hA (by omega)
   obtain ⟨rfl,rfl⟩:=hC rfl
   have hxy0:(0:Int)=x∧(0:Int)=y:=by have:=HR.out;simpa [orF] using this
   obtain ⟨rfl,rfl⟩:=hxy0
   go_wp2_with fail
   obtain ⟨e0,e1,e2⟩:=or_end' HRB.out HBR.out (.int .i64 0) (.int .i64 0)
   (try simp only [Exit.inBlock,Exit.then])
   exact bodyPost_ret (v:=.agg #[.int .i64 0,.int .i64 0]) (by simp [results,Tryz.results15,go_sem,e0,e1]) rfl ⟨rfl,e2⟩
end
end Go.Proofs.YtddnnohfbagbnaaGreatDoor
