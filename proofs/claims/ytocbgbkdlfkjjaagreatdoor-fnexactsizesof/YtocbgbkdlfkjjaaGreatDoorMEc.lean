/- FnExactSizesOf holds at every argument, the three tables of the library and the handle of the type error being as the text lays them (the card ties them to it): -/
import Derived.Test.YtocbgbkdlfkjjaaGreatDoorMHb
import Derived.Deep.AppendLies
import Derived.Deep.Onto
import Derived.Deep.QuietTactic
import Derived.BigQuiet
import Derived.Test.YtocbgbkdlfkjjaaGreatDoorMEb
import Derived.Test.YtocbgbkdlfkjjaaGreatDoorMSa
import Derived.OpenShut
import Derived.Test.YtocbgbkdlfkjjaaGreatDoorTie
import Derived.Test.YtocbgbkdlfkjjaaGreatDoorCards
import Derived.ProofKit
import Derived.LaidMore
import Derived.LaidHandle
import Derived.Stop.Joined
import Derived.SevenTiedAt
import Derived.LaidSub
set_option maxRecDepth 100000
set_option maxHeartbeats 6400000
namespace Go.Proofs.YtocbgbkdlfkjjaaGreatDoor
open Go.RowKit
def ints (l:List Int):List Value:=l.map (Value.int .i64)
theorem ints_len (l:List Int):(ints l).length=l.length:=by simp [ints]
theorem ints_get {l:List Int} {i:Nat}:(ints l)[i]?=(l[i]?).map (Value.int .i64):=by simp [ints]
theorem ints_set (l:List Int) (i:Nat) (x:Int):(ints l).set i (.int .i64 x)=ints (l.set i x):=by simp [ints]
theorem ints_snoc (l:List Int) (x:Int):ints l++[.int .i64 x]=ints (l++[x]):=by simp [ints]
def OwnI (w:World) (base:Nat) (v:Value) (l:List Int):Prop:=w.ownsRow base 3 1 v l.length (ints l)
theorem OwnI.below {w w':World} {base:Nat} {v:Value} {l:List Int} (h:OwnI w base v l) (hb:Below w.heap.size w w'):OwnI w' base v l:=zpQ h hb
theorem OwnI.form {w:World} {base:Nat} {v:Value} {l:List Int} (h:OwnI w base v l):∃ ao cap,v=.slice ao l.length cap:=by
 rcases h.2 with ⟨rfl,h0⟩ | ⟨g,cap,cur,rfl,_⟩
 ·exact ⟨none,0,by rw [h0]⟩
 ·exact ⟨_,_,rfl⟩
theorem OwnI.mono {w:World} {base base':Nat} {v:Value} {l:List Int} (h:OwnI w base v l) (hb:base'≤base):OwnI w base' v l:=World.ownsRow.mono h hb
theorem OwnI.nil (w:World) (base:Nat):OwnI w base (.slice none 0 0) []:=⟨rfl,.inl ⟨rfl,rfl⟩⟩
theorem OwnI.fresh {w':World} {g base:Nat} (hb:base≤g) (hg:w'.heap[g]?=some (.cells #[] 3 (0,0))):OwnI w' base (.slice (some ⟨g,0,none⟩) 0 0) [] :=
 ⟨rfl,.inr ⟨g,0,#[],rfl,hb,hg,Nat.le_refl _,by unfold maxLen;omega,rfl,rfl⟩⟩
def IntsAt (w:World) (a:Option Addr) (l:List Int):Prop:=l=[]∨∃ b o,a=some ⟨b,o,none⟩∧∀ (i:Nat) (x:Int),l[i]?=some x→w.cell? ⟨b,o+i,none⟩=some (.int .i64 x)
theorem IntsAt.below {w w':World} {a:Option Addr} {l:List Int} (h:IntsAt w a l) (hb:Below w.heap.size w w'):IntsAt w' a l:=by
 rcases h with h | ⟨b,o,e,h⟩
 ·exact .inl h
 ·refine .inr ⟨b,o,e,fun i x hx=>?_⟩
  have h1:=h i x hx
  exact (hb.cell (p:=⟨b,o+i,none⟩) (World.block_lt_of_cell? w _ h1)).trans h1
theorem OwnI.at {w:World} {base:Nat} {ao:Option Addr} {n cap:Nat} {l:List Int} (h:OwnI w base (.slice ao n cap) l):IntsAt w ao l:=by
 rcases h.2 with ⟨e,h0⟩ | ⟨g,cap',cur,e,_⟩
 ·exact .inl (List.length_eq_zero_iff.1 h0)
 ·simp at e
  obtain ⟨rfl,rfl,rfl⟩:=e
  refine .inr ⟨g,0,rfl,fun i x hx=>?_⟩
  have hi:=(List.getElem?_eq_some_iff.1 hx).1
  have:=World.ownsRow.cellAt h i (by omega)
  rw [Nat.zero_add,this,ints_get,hx];rfl
theorem eqIntS_of (l:List Int) (b off c b' off' c':Nat) (w:World) (hn:l.length≤maxLen) (hl:∀ (i:Nat) (x:Int),l[i]?=some x→w.cell? ⟨b,off+i,none⟩=some (.int .i64 x)) (hl':∀ (i:Nat) (x:Int),l[i]?=some x→w.cell? ⟨b',off'+i,none⟩=some (.int .i64 x)) :
    Calls Tryz.prog 29 #[.slice (some ⟨b,off,none⟩) l.length c,.slice (some ⟨b',off',none⟩) l.length c'] w fun e w'=>e=.returned (.bool true)∧Below w.heap.size w w':=by
 unfold maxLen at hn
 have HL:=xaQ hl
 have HL':=xaQ hl'
 clear hl hl'
 go_enter Tryz.func29,Tryz.ntmps29
 go_wp2
 go_loopw [5] (fun i w'=>∃ (k:Nat),k≤l.length∧i=.int .i64 k∧Below w.heap.size w w') (fun i _=>l.length - (intOf i).toNat)
 case atStart=>exact ⟨0,Nat.zero_le _,rfl,Below.refl _ _⟩
 case round =>
  obtain ⟨k,hk,rfl,hbel⟩:=hrel
  have HB:=xaQ hbel
  by_cases hlt:k<l.length
  ·obtain ⟨x,hx⟩:∃ x,l[k]?=some x:=⟨_,List.getElem?_eq_getElem hlt⟩
   have h1:=HL.out k x hx
   have h2:=HL'.out k x hx
   have hc1:wr.cell? ⟨b,off+k,none⟩=some (.int .i64 x):=(hbel.cell (p:=⟨b,off+k,none⟩) (World.block_lt_of_cell? w _ h1)).trans h1
   have hc2:wr.cell? ⟨b',off'+k,none⟩=some (.int .i64 x):=(hbel.cell (p:=⟨b',off'+k,none⟩) (World.block_lt_of_cell? w _ h2)).trans h2
   clear hx h1 h2 hbel
   have i0:(0:Int)≤(k:Int):=by omega
   have i1:(k:Int)<(l.length:Int):=by omega
   go_wp2
   go_quiet (fail)
   go_wp2
   go_roundw
   case rel=>exact ⟨k+1,by omega,by go_num,Below.trans HB.out ⟨rfl,rfl,rfl,Nat.le_refl _,fun _ _=>rfl⟩⟩
   case measure=>simp [intOf];omega
  ·go_wp2
   go_ret
   exact ⟨rfl,HB.out⟩
theorem eqIntS_nil (a a':Option Addr) (c c':Nat) (w:World):Calls Tryz.prog 29 #[.slice a 0 c,.slice a' 0 c'] w fun e w'=>e=.returned (.bool true)∧Below w.heap.size w w':=by
 go_enter Tryz.func29,Tryz.ntmps29
 go_wp2
 go_loopw [5] (fun i w'=>i=.int .i64 0∧w'=w) (fun i _=>0)
 case atStart=>exact ⟨rfl,rfl⟩
 case round =>
  obtain ⟨rfl,rfl⟩:=hrel
  go_wp2
  go_ret
  exact ⟨rfl,Below.refl _ _⟩
theorem eqIntS_ok (l:List Int) (a a':Option Addr) (c c':Nat) (w:World) (hn:l.length≤maxLen) (hl:IntsAt w a l) (hl':IntsAt w a' l) :
    Calls Tryz.prog 29 #[.slice a l.length c,.slice a' l.length c'] w fun e w'=>e=.returned (.bool true)∧Below w.heap.size w w':=by
 rcases hl with rfl | ⟨b,o,rfl,hl⟩
 ·exact eqIntS_nil a a' c c' w
 ·rcases hl' with rfl | ⟨b',o',rfl,hl'⟩
  ·exact eqIntS_nil _ a' c c' w
  ·exact eqIntS_of l b o c b' o' c' w hn hl hl'
def marksI (k:Int) (n:Nat):List Int:=(List.range n).map fun i=>k+(i:Nat)
theorem marksI_len (k:Int) (n:Nat):(marksI k n).length=n:=by simp [marksI]
theorem marksI_get {k:Int} {n i:Nat} (h:i<n):(marksI k n)[i]?=some (k+i):=by simp [marksI,h]
theorem ret_int' {k:IntKind} {a b:Int} (h:a=b):Ending.returned (.int k a)=.returned (.int k b):=by rw [h]
theorem markIntS_of (l:List Int) (g cap base:Nat) (k0:Int) (w:World) (hn:l.length≤10000000) (h0:0≤k0) (h1:k0≤10000000) (hown:OwnI w base (.slice (some ⟨g,0,none⟩) l.length cap) l) :
    Calls Tryz.prog 30 #[.slice (some ⟨g,0,none⟩) l.length cap,.int .i64 k0] w fun e w'=>e=.returned (.int .i64 (k0+l.length))∧OwnI w' base (.slice (some ⟨g,0,none⟩) l.length cap) (marksI k0 l.length)∧w.grownBy w' (some g):=by
 have HO:=xaQ hown
 clear hown
 go_enter Tryz.func30,Tryz.ntmps30
 go_wp2
 go_loopw [1,5] (fun kv i w'=>∃ (j:Nat) (m:List Int),j≤l.length∧m.length=l.length∧i=.int .i64 j∧kv=.int .i64 (k0+j)∧w'.ownsRow base 3 1 (.slice (some ⟨g,0,none⟩) l.length cap) l.length (ints m)∧(∀ q,q<j→m[q]?=some (k0+(q:Nat)))∧w.grownBy w' (some g)) (fun _ i _=>l.length - (intOf i).toNat)
 case atStart=>exact ⟨0,l,Nat.zero_le _,rfl,rfl,by simp,HO.out,fun q hq=>by omega,World.grownBy.refl _ _⟩
 case round =>
  obtain ⟨j,m,hj,hm,rfl,rfl,hown,hmk,hg⟩:=hrel
  have HW:=xaQ hown
  have HM:=xaQ hm
  have HK:=xaQ hmk
  have HG:=xaQ hg
  clear hown hmk hg HO hm
  by_cases hlt:j<l.length
  ·obtain ⟨v0,c0⟩:∃ v,wr.cell? ⟨g,j,none⟩=some v:=⟨_,(HW.out.cellAt j (by omega)).trans (List.getElem?_eq_getElem (by rw [ints_len,HM.out];exact hlt))⟩
   have f0:=HW.out.frozenAt j
   go_wp2
   go_roundw
   case rel =>
    have hs:=HW.out.stored j (.int .i64 (k0+j))
    rw [ints_set] at hs
    refine ⟨j+1,m.set j (k0+j),by omega,by simpa using HM.out,by go_num,?_,hs.1,fun q hq=>?_,World.grownBy.trans HG.out hs.2⟩
    ·congr 1;omega
    ·rw [List.getElem?_set]
     have hml:=HM.out
     rcases (by omega:q<j∨q=j) with h | rfl
     ·rw [if_neg (by omega)];exact HK.out q h
     ·rw [if_pos rfl,if_pos (by omega)]
   case measure=>simp [intOf];omega
  ·have e:j=l.length:=by omega
   subst e
   have em:m=marksI k0 l.length:=by
    apply List.ext_getElem?
    intro q
    by_cases hq:q<l.length
    ·rw [HK.out q hq,marksI_get hq]
    ·rw [List.getElem?_eq_none (by have:=HM.out;omega),List.getElem?_eq_none (by rw [marksI_len];omega)]
   have hw:=HW.out
   rw [em] at hw
   have HW:=xaQ hw
   clear hw em
   go_wp2
   go_ret
   refine ⟨rfl,?_,HG.out⟩
   unfold OwnI
   rw [marksI_len]
   exact HW.out
theorem markIntS_nil (a:Option Addr) (c:Nat) (k0:Int) (w:World) :
    Calls Tryz.prog 30 #[.slice a 0 c,.int .i64 k0] w fun e w'=>e=.returned (.int .i64 k0)∧w'=w:=by
 go_enter Tryz.func30,Tryz.ntmps30
 go_wp2
 go_loopw [1,5] (fun kv i w'=>i=.int .i64 0∧kv=.int .i64 k0∧w'=w) (fun _ i _=>0)
 case atStart=>exact ⟨rfl,rfl,rfl⟩
 case round =>
  obtain ⟨rfl,rfl,rfl⟩:=hrel
  go_wp2
  go_ret
  exact ⟨rfl,rfl⟩
theorem markIntS_ok (l:List Int) (ao:Option Addr) (cap base:Nat) (k0:Int) (w:World) (hn:l.length≤10000000) (h0:0≤k0) (h1:k0≤10000000) (hown:OwnI w base (.slice ao l.length cap) l) :
    Calls Tryz.prog 30 #[.slice ao l.length cap,.int .i64 k0] w fun e w'=>e=.returned (.int .i64 (k0+l.length))∧OwnI w' base (.slice ao l.length cap) (marksI k0 l.length)∧w.grownBy w' (Value.ownBlock (.slice ao l.length cap)):=by
 rcases hown.2 with ⟨e,h⟩ | ⟨g,cap',cur,e,_⟩
 ·have hl:=List.length_eq_zero_iff.1 h
  subst hl
  refine (markIntS_nil ao cap k0 w).mono ?_
  rintro e w' ⟨rfl,rfl⟩
  exact ⟨ret_int' (by simp),hown,World.grownBy.refl _ _⟩
 ·simp at e
  obtain ⟨rfl,rfl⟩:=e
  exact markIntS_of l g cap base k0 w hn h0 h1 hown
theorem heldIntS_of (n b off c:Nat) (k0:Int) (w:World) (hn:n≤10000000) (h0:0≤k0) (h1:k0≤10000000) (hl:∀ (i:Nat) (x:Int),(marksI k0 n)[i]?=some x→w.cell? ⟨b,off+i,none⟩=some (.int .i64 x)) :
    Calls Tryz.prog 31 #[.slice (some ⟨b,off,none⟩) n c,.int .i64 k0] w fun e w'=>e=.returned (.int .i64 (k0+n))∧w'=w:=by
 have HL:=xaQ hl
 clear hl
 go_enter Tryz.func31,Tryz.ntmps31
 go_wp2
 go_loopw [1,5] (fun kv i w'=>∃ (j:Nat),j≤n∧i=.int .i64 j∧kv=.int .i64 (k0+j)∧w'=w) (fun _ i _=>n - (intOf i).toNat)
 case atStart=>exact ⟨0,Nat.zero_le _,rfl,by simp,rfl⟩
 case round =>
  obtain ⟨j,hj,rfl,rfl,rfl⟩:=hrel
  by_cases hlt:j<n
  ·have c0:=HL.out j _ (marksI_get hlt)
   go_wp2
   go_roundw
   case rel=>exact ⟨j+1,by omega,by go_num,by congr 1;omega,by trivial⟩
   case measure=>simp [intOf];omega
  ·have e:j=n:=by omega
   subst e
   go_wp2
   go_ret
   exact ⟨rfl,rfl⟩
theorem heldIntS_nil (a:Option Addr) (c:Nat) (k0:Int) (w:World) :
    Calls Tryz.prog 31 #[.slice a 0 c,.int .i64 k0] w fun e w'=>e=.returned (.int .i64 k0)∧w'=w:=by
 go_enter Tryz.func31,Tryz.ntmps31
 go_wp2
 go_loopw [1,5] (fun kv i w'=>i=.int .i64 0∧kv=.int .i64 k0∧w'=w) (fun _ i _=>0)
 case atStart=>exact ⟨rfl,rfl,rfl⟩
 case round =>
  obtain ⟨rfl,rfl,rfl⟩:=hrel
  go_wp2
  go_ret
  exact ⟨rfl,rfl⟩
theorem heldIntS_ok (n:Nat) (a:Option Addr) (c:Nat) (k0:Int) (w:World) (hn:n≤10000000) (h0:0≤k0) (h1:k0≤10000000) (hl:IntsAt w a (marksI k0 n)) :
    Calls Tryz.prog 31 #[.slice a n c,.int .i64 k0] w fun e w'=>e=.returned (.int .i64 (k0+n))∧w'=w:=by
 rcases hl with h | ⟨b,o,rfl,hl⟩
 ·have h':n=0:=by have:=marksI_len k0 n;rw [h] at this;simpa using this.symm
  subst h'
  refine (heldIntS_nil a c k0 w).mono ?_
  rintro e w' ⟨rfl,rfl⟩
  exact ⟨ret_int' (by simp),rfl⟩
 ·exact heldIntS_of n b o c k0 w hn h0 h1 hl
end Go.Proofs.YtocbgbkdlfkjjaaGreatDoor
namespace Go.Proofs.YtocbgbkdlfkjjaaGreatDoor
open Go.RowKit
open Pl
def zJQ (D:List T):List Int:=(D.filter fun t=>decide (xdQ t=32)).map numT
theorem sizesD_snoc (D:List T) (t:T):zJQ (D++[t])=zJQ D++(if xdQ t=32 then [numT t] else []):=by
 unfold zJQ
 rw [List.filter_append,List.map_append]
 by_cases h:xdQ t=32 <;> simp [h]
theorem sizesD_le (D:List T):(zJQ D).length≤D.length:=by unfold zJQ;rw [List.length_map];exact List.length_filter_le _ _
def sizesP (t:T):List Int:=if (trb t).1=0 then zJQ (xXQ t).dropLast else []
def IPost (l:List Int) (w:World) (e:Ending) (w':World):Prop:=∃ (ra:Option Addr) (rc:Nat),e=.returned (.slice ra l.length rc)∧OwnI w' w.heap.size (.slice ra l.length rc) l∧Below w.heap.size w w'
theorem Tryz.info3s:(Tryz.prog.info? 3).map (fun i=>(i.zero,i.size,i.bytes))=some (some (.int .i64 0),1,8):=by kernel_rfl
theorem sSizes_any (k:Int) (s:ByteArray) (m:Int) (D:List T) (B:T) (a:Option Addr) (c:Nat) (w:World) (hn:D.length≤1000) (hk:Kids w 0 a (D++[B])) :
 Calls Tryz.prog 53 #[.agg #[.int .i64 k,.string s,.int .i64 m,.slice a (D.length+1) c]] w (IPost (zJQ D) w):=by
 have B0:Below w.heap.size w (w.alloc (.cells #[.int .i64 k,.string s,.int .i64 m,.slice a (D.length+1) c] 31)):=(Below.refl _ _).alloc (Nat.le_refl _) _
 have HB:=xaQ B0
 obtain ⟨p0,p1,p2,p3⟩:=Four.new w k s m a (D.length+1) c 31
 obtain ⟨P,hP⟩:∃ q,w.heap.size=q:=⟨_,rfl⟩
 obtain ⟨w1,hw1⟩:∃ q,w.alloc (.cells #[.int .i64 k,.string s,.int .i64 m,.slice a (D.length+1) c] 31)=q:=⟨_,rfl⟩
 have HK:=xaQ (hk.below B0)
 rw [hw1] at HB HK p0 p1 p2 p3
 rw [hP] at p0 p1 p2 p3
 have HF:=xaQ (show Four w1 P k s m a (D.length+1) c from ⟨p0,p1,p2,p3⟩)
 obtain ⟨i0,hi0,hz0⟩:=Option.map_eq_some_iff.1 Tryz.info3s
 simp only [Prod.mk.injEq] at hz0
 obtain ⟨hz1,hz2,hz3⟩:=hz0
 have HI:=xaQ (show Tryz.prog.info? 3=some i0∧i0.zero=some (.int .i64 0)∧i0.size=1∧i0.bytes=8 from ⟨hi0,hz1,hz2,hz3⟩)
 clear B0 hk hi0 hz1 hz2 hz3
 go_enter Tryz.func53,Tryz.ntmps53
 have HO0:Hid (OwnI (w1.alloc (.cells #[] 3)) w1.heap.size (.slice (some ⟨w1.heap.size,0,none⟩) 0 0) []):=xaQ (World.ownsRow_made (e:=3) (size:=1) (base:=w1.heap.size) w1 #[] 0 (Nat.le_refl _) (Nat.zero_le _) rfl)
 have HB0:=xaQ ((Below.refl w1.heap.size w1).alloc (Nat.le_refl _) (.cells #[] 3))
 go_wp2
 clear hw1 hP
 go_loopg [3,4] D.length (fun g s3 s4 wr=>∃ (i:Nat) (ra:Option Addr) (rc:Nat),i+g=D.length∧s4=.int .i64 i∧s3=.slice ra (zJQ (D.take i)).length rc∧OwnI wr w1.heap.size (.slice ra (zJQ (D.take i)).length rc) (zJQ (D.take i))∧Below w1.heap.size w1 wr)
 case atStart=>exact ⟨0,_,_,by omega,rfl,rfl,HO0.out,HB0.out⟩
 case round =>
  obtain ⟨i,ra,rc,hig,rfl,rfl,hos,hbel⟩:=hrel
  have HOS:=xaQ hos
  have HBL:=xaQ hbel
  obtain ⟨p0,p1,p2,p3⟩:=HF.out.below hbel
  have hnl:(zJQ (D.take i)).length≤1000:=by
   have:=sizesD_le (D.take i)
   rw [List.length_take] at this
   omega
  clear hos HO0 HB0
  by_cases hil:i<D.length
  ·obtain ⟨x,hx⟩:∃ x,D[i]?=some x:=⟨_,List.getElem?_eq_getElem hil⟩
   have HNS:Hid (zJQ (D.take (i+1))=zJQ (D.take i)++(if xdQ x=32 then [numT x] else [])):=xaQ (by rw [x4Q hx,sizesD_snoc])
   have hx2:(D++[B])[i]?=some x:=by rw [List.getElem?_append_left hil];exact hx
   obtain ⟨xk,xs,xm,xkk⟩:=x
   obtain ⟨b,o,xa,xc,rfl,c0,c1,c2,c3,_,_,_⟩:=yqQ HK.out hbel hx2
   have j0:(0:Int)≤(i:Int):=by omega
   have j1:(i:Int)<(D.length:Int):=by omega
   have j2:(i:Int)<(D.length:Int)+1:=by omega
   obtain ⟨g1,rfl⟩:∃ q,gk=q+1:=⟨gk - 1,by omega⟩
   have w3:IntKind.i64.wrap ((i:Int)+1)=(i:Int)+1:=IntWalk.i64_in _ (by omega)
   have hz1:=hbel.size
   clear hx hx2 hbel
   obtain ⟨NL,hNL⟩:∃ q,zJQ (D.take i)=q:=⟨_,rfl⟩
   rw [hNL] at HOS HNS hnl
   rw [hNL]
   clear hNL
   by_cases hkd:xk=32
   ·subst hkd
    rw [show (if xdQ (T.node 32 xs xm xkk)=32 then [numT (T.node 32 xs xm xkk)] else [])=[xm] from if_pos rfl] at HNS
    have OW:=xaQ (World.ownsRow.alloc HOS.out (.cells #[.int .i64 xm] 3))
    go_wp2_with (first | (at_builtin;refine wpList_append_lies _ rfl _ _ _ rfl w1.heap.size 3 i0 _ 1 8 Tryz.underlying42 HI.out.1 HI.out.2.1 HI.out.2.2.1 HI.out.2.2.2 rfl (by decide) _ _ _ rfl OW.out ⟨wr.heap.size,0,none⟩ 1 1 [.int .i64 xm] rfl rfl (World.news_of_block (heap_alloc_new wr _)) (fun u hu=>by simp at hu;rcases hu with rfl;rfl) (by decide) (by unfold maxLen;omega) (by omega) (by simp;omega) (wr.heap.size+1) (by simp) ?_;intro g cq w4 hown hgrow hat hlt4) | go_in)
    have HOW:Hid (OwnI w4 w1.heap.size (.slice (some ⟨g,0,none⟩) (NL++[xm]).length cq) (NL++[xm])):=xaQ (by
     unfold OwnI
     rw [List.length_append,← ints_snoc]
     exact hown)
    have HB4:Hid (Below w1.heap.size w1 w4):=xaQ ((HBL.out.alloc hz1 (.cells #[.int .i64 xm] 3)).grown hgrow (Nat.le_trans hz1 (by simp)) (fun q e=>(World.ownsRow.lt HOS.out q e).1))
    clear hown hgrow hat OW
    go_wp2
    go_roundg g1
    case rel=>exact ⟨i+1,_,_,by omega,by simp,by rw [HNS.out,List.length_append];rfl,by rw [HNS.out];exact HOW.out,HB4.out⟩
    case measure=>omega
   ·have hk0:(xk == 32)=false:=by simpa using hkd
    rw [show (if xdQ (T.node xk xs xm xkk)=32 then [numT (T.node xk xs xm xkk)] else [])=[] from if_neg hkd,List.append_nil] at HNS
    go_wp2
    go_roundg g1
    case rel=>exact ⟨i+1,ra,rc,by omega,by simp,by rw [HNS.out],by rw [HNS.out];exact HOS.out,HBL.out⟩
    case measure=>omega
  ·have hik:i=D.length:=by omega
   subst hik
   have j1:¬ (D.length:Int)<(D.length:Int):=by omega
   rw [List.take_length] at HOS ⊢
   go_wp2
   go_ret
   exact ⟨_,_,rfl,HOS.out.mono HB.out.size,xbQ HB.out HBL.out⟩
theorem sSizesOf_any (k:Int) (s:ByteArray) (m:Int) (kk:List T) (a:Option Addr) (c:Nat) (w:World) (hs:s.size≤maxLen) (hn:kk.length≤maxLen) (hcn:cnt (.node k s m kk)≤1048577) (hk:Kids w 0 a kk) :
 Calls Tryz.prog 27 #[.agg #[.int .i64 k,.string s,.int .i64 m,.slice a kk.length c]] w (IPost (sizesP (.node k s m kk)) w):=by
 have B0:=xaQ ((Below.refl w.heap.size w).alloc (Nat.le_refl _) (.cells #[.int .i64 k,.string s,.int .i64 m,.slice a kk.length c] 31))
 have F0:=xaQ (Four.new w k s m a kk.length c 31)
 have HR:=xaQ (fun W (hW:Below w.heap.size w W)=>sRight_any k s m kk a c W hs hn hcn (hk.below hW))
 have HK:=xaQ hk
 by_cases h0:(trb (.node k s m kk)).1=0
 ·have HSZ:Hid (sizesP (.node k s m kk)=zJQ (xXQ (.node k s m kk)).dropLast):=xaQ (by unfold sizesP;rw [if_pos h0])
  rw [decide_eq_true h0] at HR
  obtain ⟨rfl,rfl,rfl,D,B,rfl,hln,_,_⟩:=yZQ h0
  rw [HSZ.out,show (xXQ (.node 40 ⟨#[]⟩ 0 (D++[B]))).dropLast=D by simp [xXQ]]
  have hlen:(D++[B]).length=D.length+1:=by simp
  rw [hlen] at HR F0 B0
  rw [hlen]
  clear hs hn hcn hk h0 HSZ
  go_enter Tryz.func27,Tryz.ntmps27
  go_upto_region 3 with (go_at_call 47;refine (HR.out _ B0.out).mono ?_;rintro e w1 ⟨rfl,hb1⟩)
  have B1:=xaQ (xbQ B0.out hb1)
  obtain ⟨p0,p1,p2,p3⟩:=F0.out.below hb1
  clear hb1
  go_wp2_with (go_at_call 53;refine (sSizes_any 40 ⟨#[]⟩ 0 D B a c _ (by omega) (HK.out.below B1.out)).mono ?_;rintro e w2 ⟨ra,rc,rfl,ho,hb2⟩)
  go_ret
  exact ⟨_,_,rfl,ho.mono B1.out.size,xbQ B1.out hb2⟩
 ·rw [show sizesP (.node k s m kk)=[] by unfold sizesP;rw [if_neg h0]]
  rw [decide_eq_false h0] at HR
  clear hs hn hcn hk h0
  go_enter Tryz.func27,Tryz.ntmps27
  go_wp2_with (go_at_call 47;refine (HR.out _ B0.out).mono ?_;rintro e w1 ⟨rfl,hb1⟩)
  go_ret
  have hz:=(xbQ B0.out hb1).size
  exact ⟨_,_,rfl,World.ownsRow_made (e:=3) (size:=1) (base:=w.heap.size) w1 #[] 0 hz (Nat.zero_le _) rfl,(xbQ B0.out hb1).alloc hz _⟩
end Go.Proofs.YtocbgbkdlfkjjaaGreatDoor
namespace Go.Proofs.YtocbgbkdlfkjjaaGreatDoor
open Go.RowKit
open Pl
theorem sizes_decl {k m:Int} {s:ByteArray} {kk:List T}:(declP (.node k s m kk) 32).map numT=sizesP (.node k s m kk):=by
 unfold declP sizesP
 by_cases h0:(trb (.node k s m kk)).1=0
 ·rw [if_pos h0,if_pos h0]
  cases hok:okP (.node k s m kk) with
  | false =>
   unfold trb at h0
   rw [hok] at h0
   simp at h0
  | true =>
   obtain ⟨hk40,_,hfm⟩:=zNQ hok
   obtain rfl:k=40:=hk40
   obtain ⟨rfl,rfl,D,B,rfl,_,hBk,_,_⟩:=zEQ hfm
   rw [show xXQ (.node 40 ⟨#[]⟩ 0 (D++[B]))=D++[B] from rfl,List.dropLast_concat,declD_snoc,if_neg (by rw [hBk];decide),List.append_nil]
   rfl
 ·rw [if_neg h0,if_neg h0]
  rfl
theorem iSizesOf_any (k:Int) (s:ByteArray) (m:Int) (kk:List T) (a:Option Addr) (c:Nat) (w:World) (hs:s.size≤maxLen) (hn:kk.length≤maxLen) (hcap:kk.length≤c) (hc9:c≤maxLen) (hk:Kids w 0 a kk) (htab:Lib.TabIs Tryz.prog w "internal/strconv.uint64pow10" .u64 Lib.pow10Tab)
 (hg:w.cell? ⟨0,0,none⟩=some (.iface 136 (.agg #[.pointer (some ⟨5,59,none⟩)]))):Calls Tryz.prog 28 #[.agg #[.int .i64 k,.string s,.int .i64 m,.slice a kk.length c]] w (IPost (sizesP (.node k s m kk)) w):=by
 obtain ⟨gg,hgn⟩:=Option.isSome_iff_exists.1 (show (Tryz.prog.globalNamed "internal/strconv.uint64pow10").isSome=true by kernel_rfl)
 have HD:=xaQ (fun W (hW:Below w.heap.size w W)=>decls_any k s m kk a c 32 W hs hn hcap hc9 (hk.below hW) (Joins.tab_stays hgn htab hW (Nat.le_refl _)) ((hW.cell (p:=⟨0,0,none⟩) (World.block_lt_of_cell? w _ hg)).trans hg))
 have B0:=xaQ ((Below.refl w.heap.size w).alloc (Nat.le_refl _) (.cells #[.int .i64 k,.string s,.int .i64 m,.slice a kk.length c] 31))
 have htl:(declP (.node k s m kk) 32).length≤1000:=by
  unfold declP
  split
  ·rename_i h0
   obtain ⟨_,_,_,D,B,e,hl,_⟩:=yZQ h0
   have:=declD_le (xXQ (.node k s m kk)) 32
   rw [show xXQ (.node k s m kk)=kk from rfl,e,List.length_append,List.length_singleton] at this
   rw [show xXQ (.node k s m kk)=kk from rfl,e]
   omega
  ·simp
 rw [← sizes_decl]
 obtain ⟨ts,hts⟩:∃ q,declP (.node k s m kk) 32=q:=⟨_,rfl⟩
 rw [hts] at HD htl ⊢
 obtain ⟨i0,hi0,hz0⟩:=Option.map_eq_some_iff.1 Tryz.info3s
 simp only [Prod.mk.injEq] at hz0
 obtain ⟨hz1,hz2,hz3⟩:=hz0
 have HI:=xaQ (show Tryz.prog.info? 3=some i0∧i0.zero=some (.int .i64 0)∧i0.size=1∧i0.bytes=8 from ⟨hi0,hz1,hz2,hz3⟩)
 clear hs hn hcap hc9 hk htab hg hgn hts hi0 hz1 hz2 hz3
 go_enter Tryz.func28,Tryz.ntmps28
 go_upto_region 3 with (go_at_call 51;refine (HD.out _ B0.out).mono ?_;rintro e w1 ⟨da,dc,cs,rfl,hdo,hrw,hb1⟩)
 have B1:=xaQ (xbQ B0.out hb1)
 have HDO:=xaQ hdo
 have HRW:=xaQ hrw
 have HN1:=xaQ (Below.refl w1.heap.size w1)
 clear hb1 hdo hrw HD
 go_loopg [3,9] ts.length (fun g s3 s9 wr=>∃ (i:Nat) (ra:Option Addr) (rc:Nat),i+g=ts.length∧s9=.int .i64 i∧s3=.slice ra (ts.take i).length rc∧OwnI wr w1.heap.size (.slice ra (ts.take i).length rc) ((ts.take i).map numT)∧Below w1.heap.size w1 wr)
 case atStart=>exact ⟨0,none,0,by omega,rfl,rfl,OwnI.nil _ _,HN1.out⟩
 case round =>
  obtain ⟨i,ra,rc,hig,rfl,rfl,hos,hbel⟩:=hrel
  have HOS:=xaQ hos
  have HBL:=xaQ hbel
  clear hos HN1
  by_cases hil:i<ts.length
  ·obtain ⟨x,hx⟩:∃ x,ts[i]?=some x:=⟨_,List.getElem?_eq_getElem hil⟩
   have HNS:Hid (ts.take (i+1)=ts.take i++[x]):=xaQ (x4Q hx)
   obtain ⟨gd,rfl,_,_,hrd⟩:=raw_row HDO.out (by omega)
   obtain ⟨e0,e1,e2,xa,xn,xc,e3⟩:=HRW.out.2 i x hx
   have c0:=hrd _ hbel _ _ e0
   have c1:=hrd _ hbel _ _ e1
   have c2:=hrd _ hbel _ _ e2
   have c3:=hrd _ hbel _ _ e3
   obtain ⟨xk,xs,xm,xkk⟩:=x
   have j0:(0:Int)≤(i:Int):=by omega
   have j1:(i:Int)<(ts.length:Int):=by omega
   obtain ⟨g1,rfl⟩:∃ q,gk=q+1:=⟨gk - 1,by omega⟩
   have w3:IntKind.i64.wrap ((i:Int)+1)=(i:Int)+1:=IntWalk.i64_in _ (by omega)
   have hz1:=hbel.size
   have hnl:(ts.take i).length≤1000:=by rw [List.length_take];omega
   have hA:Below wr.heap.size wr (wr.alloc (.cells #[.int .i64 xk,.string xs,.int .i64 xm,.slice xa xn xc] 31)):=(Below.refl _ _).alloc (Nat.le_refl _) _
   have F1:=Four.new wr xk xs xm xa xn xc 31
   obtain ⟨Y,hY⟩:∃ q,wr.heap.size=q:=⟨_,rfl⟩
   obtain ⟨w5,hw5⟩:∃ q,wr.alloc (.cells #[.int .i64 xk,.string xs,.int .i64 xm,.slice xa xn xc] 31)=q:=⟨_,rfl⟩
   rw [hw5] at hA F1
   rw [hY] at F1
   obtain ⟨q0,q1,q2,q3⟩:=F1
   have HA:=xaQ hA
   obtain ⟨NL,hNL⟩:∃ q,(ts.take i).map numT=q:=⟨_,rfl⟩
   have hll:(ts.take i).length=NL.length:=by rw [← hNL,List.length_map]
   have HN2:Hid ((ts.take (i+1)).map numT=NL++[xm]):=xaQ (by rw [HNS.out,List.map_append,hNL];rfl)
   have HN3:Hid ((ts.take (i+1)).length=NL.length+1):=xaQ (by rw [HNS.out,List.length_append,hll];rfl)
   rw [hNL,hll] at HOS
   rw [hll] at hnl ⊢
   have HLL:=xaQ hll
   simp only [xdQ,yHQ,numT] at c0 c1 c2
   clear hx hbel hA hNL hrd e0 e1 e2 e3 hll
   have O5:=xaQ (HOS.out.below HA.out)
   have OW:=xaQ (World.ownsRow.alloc O5.out (.cells #[.int .i64 xm] 3))
   have hz15:=(xbQ HBL.out HA.out).size
   go_wp2_with (first | (at_builtin;refine wpList_append_lies _ rfl _ _ _ rfl w1.heap.size 3 i0 _ 1 8 Tryz.underlying42 HI.out.1 HI.out.2.1 HI.out.2.2.1 HI.out.2.2.2 rfl (by decide) _ _ _ rfl OW.out ⟨w5.heap.size,0,none⟩ 1 1 [.int .i64 xm] rfl rfl (World.news_of_block (heap_alloc_new w5 _)) (fun u hu=>by simp at hu;rcases hu with rfl;rfl) (by decide) (by unfold maxLen;omega) (by omega) (by simp;omega) (w5.heap.size+1) (by simp) ?_;intro g cq w4 hown hgrow hat hlt4) | go_in)
   clear hw5 hY
   have HOW:Hid (OwnI w4 w1.heap.size (.slice (some ⟨g,0,none⟩) (NL++[xm]).length cq) (NL++[xm])):=xaQ (by
    unfold OwnI
    rw [List.length_append,← ints_snoc]
    exact hown)
   have HB4:Hid (Below w1.heap.size w1 w4):=xaQ (by
    have b5:=xbQ HBL.out HA.out
    exact (b5.alloc b5.size (.cells #[.int .i64 xm] 3)).grown hgrow (Nat.le_trans b5.size (by simp)) (fun q e=>(World.ownsRow.lt HOS.out q e).1))
   clear hown hgrow hat OW
   go_wp2
   go_roundg g1
   case rel=>exact ⟨i+1,some ⟨g,0,none⟩,cq,by omega,by simp,by rw [HN3.out],by rw [HN2.out,HN3.out];have:=HOW.out;rwa [List.length_append] at this,HB4.out⟩
   case measure=>omega
  ·have hik:i=ts.length:=by omega
   subst hik
   have j1:¬ (ts.length:Int)<(ts.length:Int):=by omega
   rw [List.take_length] at HOS ⊢
   go_wp2
   go_ret
   refine ⟨ra,rc,by rw [List.length_map];rfl,?_,xbQ B1.out HBL.out⟩
   rw [List.length_map]
   exact HOS.out.mono B1.out.size
end Go.Proofs.YtocbgbkdlfkjjaaGreatDoor
namespace Go.Proofs.YtocbgbkdlfkjjaaGreatDoor
open Go.ChangeShapes Go.WideShapes Go.ChangeAt Go.RowKit Go.Joins Go.Deep
open Pl
theorem OwnI.held {w w':World} {base:Nat} {v:Value} {l:List Int} (h:OwnI w base v l) (hq:∀ q,v.ownBlock=some q→q<w.heap.size→w'.heap[q]?=w.heap[q]?):OwnI w' base v l:=by
 refine ⟨h.1,?_⟩
 rcases h.2 with h0 | ⟨g,cap,cur,rfl,e2,e3,e4⟩
 ·exact .inl h0
 ·exact .inr ⟨g,cap,cur,rfl,e2,(hq g rfl (xiQ e3)).trans e3,e4⟩
theorem OwnI.grown {w w':World} {base:Nat} {v:Value} {l:List Int} {row:Option Nat} (h:OwnI w base v l) (ho:w.grownBy w' row) (hq:∀ q,v.ownBlock=some q→row≠some q):OwnI w' base v l:=by
 refine ⟨h.1,?_⟩
 rcases h.2 with h0 | ⟨g,cap,cur,rfl,e2,e3,e4⟩
 ·exact .inl h0
 ·exact .inr ⟨g,cap,cur,rfl,e2,(ho.block g (xiQ e3) (fun e=>hq g rfl e.symm)).trans e3,e4⟩
theorem OwnI.lt {w:World} {base:Nat} {v:Value} {l:List Int} (h:OwnI w base v l) {q:Nat} (hq:v.ownBlock=some q):base≤q∧q<w.heap.size:=World.ownsRow.lt h q hq
theorem four_at {w w':World} {b:Nat} {k m:Int} {s:ByteArray} {a:Option Addr} {n c:Nat} (h:Four w b k s m a n c) (hb:w'.heap[b]?=w.heap[b]?):Four w' b k s m a n c :=
 ⟨(World.cell?_of_block (w:=w) hb).trans h.1,(World.cell?_of_block (w:=w) hb).trans h.2.1,(World.cell?_of_block (w:=w) hb).trans h.2.2.1,(World.cell?_of_block (w:=w) hb).trans h.2.2.2⟩
theorem zOQ (k:Int) (s:ByteArray) (m:Int) (kk:List T) (lo hi:Nat) (a:Option Addr) (c:Nat) (w:World) (hk:MkK w lo hi a kk) (_:hi≤w.heap.size) (hc:3 * cnts kk≤8000000) :
 Calls Tryz.prog 18 #[.agg #[.int .i64 k,.string s,.int .i64 m,.slice a kk.length c],.int .i64 1] w fun e w'=>e=.returned (.int .i64 (1+3 * cnts kk))∧w'.os=w.os∧w'.tape=w.tape∧w'.output=w.output∧w.heap.size≤w'.heap.size∧∀ b,b<w.heap.size→¬ (lo≤b∧b<hi)→w'.heap[b]?=w.heap[b]?:=by
 have A0:Below w.heap.size w (w.alloc (.cells #[.int .i64 k,.string s,.int .i64 m,.slice a kk.length c] 31)):=(Below.refl _ _).alloc (Nat.le_refl _) _
 have HM:=xaQ ((markNodeS_ok (.node k s m kk)) lo hi a c 1 _ (hk.stay (WroteQ.of_below (L:=0) (lo:=lo) (hi:=hi) A0) (Nat.zero_le _)) (by omega) (by omega))
 have HA:=xaQ A0
 clear A0 hk
 go_enter Tryz.func18,Tryz.ntmps18
 go_wp2_with (go_at_call 48;refine HM.out.mono ?_;rintro e w1 ⟨rfl,ho⟩)
 go_ret
 have hA:=HA.out
 exact ⟨rfl,ho.os.trans hA.os,ho.tape.trans hA.tape,ho.output.trans hA.output,Nat.le_trans hA.size ho.size,fun b hb hn=>(ho.block b (Nat.lt_of_lt_of_le hb hA.size) hn).trans (hA.block b hb)⟩
theorem sizesP_le (t:T):(sizesP t).length≤1000:=by
 unfold sizesP
 split
 ·rename_i h0
  obtain ⟨k,s,m,kk⟩:=t
  obtain ⟨_,_,_,D,B,rfl,hl,_⟩:=yZQ h0
  have:=sizesD_le D
  rw [show (xXQ (.node k s m (D++[B]))).dropLast=D by simp [xXQ]]
  omega
 ·simp
theorem law_walk (k:Int) (s:ByteArray) (m:Int) (kk:List T) (a:Option Addr) (c:Nat) (w:World) (hs:s.size≤maxLen) (hn:kk.length≤maxLen) (hk:Kids w 0 a kk) (htab:Lib.TabIs Tryz.prog w "internal/strconv.uint64pow10" .u64 Lib.pow10Tab) (hg:w.cell? ⟨0,0,none⟩=some (.iface 136 (.agg #[.pointer (some ⟨5,59,none⟩)]))) :
 Calls Tryz.prog 7 #[.agg #[.int .i64 k,.string s,.int .i64 m,.slice a kk.length c]] w fun e w'=>e=.returned (.bool true)∧Below w.heap.size w w':=by
 have HS:=xaQ (And.intro hs hn)
 have HK:=xaQ hk
 have B0:=xaQ ((Below.refl w.heap.size w).alloc (Nat.le_refl _) (.cells #[.int .i64 k,.string s,.int .i64 m,.slice a kk.length c] 24))
 have F0:=xaQ (Four.new w k s m a kk.length c 24)
 obtain ⟨gg,hgn⟩:=Option.isSome_iff_exists.1 (show (Tryz.prog.globalNamed "internal/strconv.uint64pow10").isSome=true by kernel_rfl)
 have HEN:=xaQ (fun W (hW:Below w.heap.size w W)=>And.intro (Joins.tab_stays hgn htab hW (Nat.le_refl _)) ((hW.cell (p:=⟨0,0,none⟩) (World.block_lt_of_cell? w _ hg)).trans hg))
 obtain ⟨l,hl⟩:∃ l,sizesP (.node k s m kk)=l:=⟨_,rfl⟩
 have hll:l.length≤1000:=by rw [← hl];exact sizesP_le _
 have HLM:Hid (l.length≤maxLen):=xaQ (by unfold maxLen;omega)
 have HSP:Hid (∀ (a:Option Addr) (c:Nat) (w:World),cnt (.node k s m kk)≤1048577→Kids w 0 a kk→Calls Tryz.prog 27 #[.agg #[.int .i64 k,.string s,.int .i64 m,.slice a kk.length c]] w (IPost l w)):=xaQ (by rw [← hl];exact fun a c w hc h=>sSizesOf_any k s m kk a c w hs hn hc h)
 have HIP:Hid (∀ (a:Option Addr) (c:Nat) (W:World),kk.length≤c→c≤maxLen→Kids W 0 a kk→Below w.heap.size w W→Calls Tryz.prog 28 #[.agg #[.int .i64 k,.string s,.int .i64 m,.slice a kk.length c]] W (IPost l W)):=xaQ (by rw [← hl];exact fun a c W h1 h2 h hW=>iSizesOf_any k s m kk a c W hs hn h1 h2 h (HEN.out W hW).1 (HEN.out W hW).2)
 clear hs hn hk htab hgn hg hl HEN
 go_enter Tryz.func7,Tryz.ntmps7
 go_wp2_with fail
 refine (szNode_ok (.node k s m kk) a c _ _ HS.out.1 HS.out.2 (HK.out.below B0.out) (by omega) (by omega)).mono ?_
 rintro e w1 ⟨⟨r,rfl,hm⟩,hb1⟩
 have B1:=xaQ (xbQ B0.out hb1)
 have F1:=xaQ (F0.out.below hb1)
 have HM:=xaQ hm
 clear hb1 hm F0 B0
 by_cases hr:r<0
 ·go_wp2
  go_ret
  exact ⟨rfl,B1.out⟩
 ·have HZ:Hid (bulk (.node k s m kk)≤1048576):=xaQ (by have:=HM.out;omega)
  have HC:Hid (cnt (.node k s m kk)≤1048577):=xaQ (by have:=HZ.out;have:=cnt_le (.node k s m kk);omega)
  have HC3:Hid (3 * cnts kk≤8000000):=xaQ (by have:=HC.out;simp only [cnt] at this;omega)
  clear HM
  obtain ⟨p0,p1,p2,p3⟩:=F1.out
  go_wp2_with fail
  refine (ygQ (.node k s m kk) a c _ HZ.out (HK.out.below B1.out)).mono ?_
  rintro e w2 ⟨⟨a2,c2,rfl,hk2,_⟩,hb2⟩
  have B2:=xaQ (xbQ B1.out hb2)
  have F2:=xaQ (F1.out.below hb2)
  have K2:=xaQ (hk2.plain.lower (Nat.zero_le _))
  clear hb2 hk2 F1 B1 p0 p1 p2 p3
  go_wp2_with fail
  refine (HSP.out a2 c2 _ HC.out K2.out).mono ?_
  rintro e w3 ⟨sa,sc,rfl,so,hb3⟩
  have B3:=xaQ (xbQ B2.out hb3)
  have F3:=xaQ (F2.out.below hb3)
  have S3:=xaQ so
  have hz3:w.heap.size<w3.heap.size:=World.block_lt_of_cell? w3 _ F3.out.1
  have z3:=hb3.size
  clear hb3 F2 K2 so
  obtain ⟨p0,p1,p2,p3⟩:=F3.out
  go_wp2_with fail
  refine (ygQ (.node k s m kk) a c _ HZ.out (HK.out.below B3.out)).mono ?_
  rintro e w4 ⟨⟨a4,c4,rfl,hk4,hcap4,hc94⟩,hb4⟩
  have B4:=xaQ (xbQ B3.out hb4)
  have F4:=xaQ (F3.out.below hb4)
  have K4:=xaQ (hk4.plain.lower (Nat.zero_le _))
  have M4:=xaQ hk4.mk
  have C4:=xaQ (And.intro hcap4 hc94)
  have S4:=xaQ (S3.out.below hb4)
  have z4:=hb4.size
  have SL:Hid (∀ q,Value.ownBlock (.slice sa l.length sc)=some q→w.heap.size≤q∧q<w3.heap.size):=xaQ fun q hq=>by
   have h1:=S3.out.lt hq
   have h2:=B2.out.size
   exact ⟨by omega,h1.2⟩
  clear hb4 hk4 hcap4 hc94 F3 p0 p1 p2 p3 S3
  go_wp2_with fail
  have A4:=xaQ ((Below.refl w4.heap.size w4).alloc (Nat.le_refl _) (.cells #[.int .i64 k,.string s,.int .i64 m,.slice a4 kk.length c4] 31))
  refine (HIP.out a4 c4 _ C4.out.1 C4.out.2 (K4.out.below A4.out) (xbQ B4.out A4.out)).mono ?_
  rintro e w5 ⟨ga,gc,rfl,go,hb5⟩
  have B5:=xaQ (xbQ (xbQ B4.out A4.out) hb5)
  have F5:=xaQ ((F4.out.below A4.out).below hb5)
  have X5:=xaQ ((Four.new w4 k s m a4 kk.length c4 31).below hb5)
  have K5:=xaQ ((K4.out.below A4.out).below hb5)
  have M5:=xaQ ((M4.out.stay (WroteQ.of_below (L:=0) (lo:=0) (hi:=0) A4.out) (Nat.zero_le _)).stay (WroteQ.of_below (L:=0) (lo:=0) (hi:=0) hb5) (Nat.zero_le _))
  have S5:=xaQ ((S4.out.below A4.out).below hb5)
  have G5:=xaQ go
  have GL:Hid (∀ q,Value.ownBlock (.slice ga l.length gc)=some q→w4.heap.size<q∧q<w5.heap.size):=xaQ fun q hq=>by
   have h1:=G5.out.lt hq
   simp at h1
   exact ⟨by omega,h1.2⟩
  have z5:w4.heap.size<w5.heap.size:=by have:=hb5.size;simp at this;omega
  clear hb5 A4 F4 B4 K4 M4 S4 go
  go_wp2_with fail
  refine (eqIntS_ok l ga sa gc sc _ HLM.out G5.out.at S5.out.at).mono ?_
  rintro e w6 ⟨rfl,hb6⟩
  have B6:=xaQ (xbQ B5.out hb6)
  have F6:=xaQ (F5.out.below hb6)
  have X6:=xaQ (X5.out.below hb6)
  have K6:=xaQ (K5.out.below hb6)
  have M6:=xaQ (M5.out.stay (WroteQ.of_below (L:=0) (lo:=0) (hi:=0) hb6) (Nat.zero_le _))
  have S6:=xaQ (S5.out.below hb6)
  have G6:=xaQ (G5.out.below hb6)
  have z6:=hb6.size
  clear hb6 B5 F5 X5 K5 M5 S5 G5
  obtain ⟨p0,p1,p2,p3⟩:=F6.out
  obtain ⟨q0,q1,q2,q3⟩:=X6.out
  have hlx:w.heap.size<w6.heap.size:=World.block_lt_of_cell? w6 _ p0
  have hly:w4.heap.size<w6.heap.size:=World.block_lt_of_cell? w6 _ q0
  go_wp2_with fail
  go_region_held3 (fun w'=>w'.cell? ⟨w.heap.size,0,none⟩=some (.int .i64 k)∧w'.cell? ⟨w.heap.size,1,none⟩=some (.string s)∧w'.cell? ⟨w.heap.size,2,none⟩=some (.int .i64 m)∧w'.cell? ⟨w.heap.size,3,none⟩=some (.slice a kk.length c)∧w'.cell? ⟨w4.heap.size,0,none⟩=some (.int .i64 k)∧w'.cell? ⟨w4.heap.size,1,none⟩=some (.string s)∧w'.cell? ⟨w4.heap.size,2,none⟩=some (.int .i64 m)∧w'.cell? ⟨w4.heap.size,3,none⟩=some (.slice a4 kk.length c4))
   (first | exact ⟨p0,p1,p2,p3,q0,q1,q2,q3⟩ | exact ⟨(hc _ _ hlx).trans p0,(hc _ _ hlx).trans p1,(hc _ _ hlx).trans p2,(hc _ _ hlx).trans p3,(hc _ _ hly).trans q0,(hc _ _ hly).trans q1,(hc _ _ hly).trans q2,(hc _ _ hly).trans q3⟩)
   (first | (go_at_call 12;refine (ygQ (.node k s m kk) a c _ HZ.out (HK.out.below B6.out.drew)).mono ?_;rintro e w7 ⟨⟨a6,c6,rfl,hk6,_⟩,hb7⟩;obtain ⟨hc,hf⟩:=ykQ hb7) | (go_at_call 15;refine (eqNode_ok (.node k s m kk) a4 a6 c4 c6 _ HS.out.2 ((K6.out.below (Below.refl _ _).drew).below hb7) (hk6.plain.lower (Nat.zero_le _))).mono ?_;rintro e w8 ⟨rfl,hb8⟩;obtain ⟨hc',hf'⟩:=ykQ hb8;have hc:=fun (b o:Nat) (h:b<w6.drew.heap.size)=>(hc' b o (Nat.lt_of_lt_of_le h hb7.size)).trans (hc b o h)))
  have N8:=xaQ (xbQ (xbQ (Below.refl w6.heap.size w6).drew hb7) hb8)
  have B8:=xaQ (xbQ B6.out N8.out)
  have F8:=xaQ (F6.out.below N8.out)
  have X8:=xaQ (X6.out.below N8.out)
  have M8:=xaQ (M6.out.stay (WroteQ.of_below (L:=0) (lo:=0) (hi:=0) N8.out) (Nat.zero_le _))
  have S8:=xaQ (S6.out.below N8.out)
  have G8:=xaQ (G6.out.below N8.out)
  have z8:=N8.out.size
  clear hc hc' hf hf' hb7 hb8 hk6 p0 p1 p2 p3 q0 q1 q2 q3 B6 F6 X6 K6 M6 S6 G6 N8
  obtain ⟨q0,q1,q2,q3⟩:=X8.out
  go_wp2_with fail
  refine (zOQ k s m kk w3.heap.size w4.heap.size a4 c4 _ M8.out (by omega) HC3.out).mono ?_
  rintro e w9 ⟨rfl,ho1,ho2,ho3,ho4,ho5⟩
  have hB3:=B3.out.size
  have B9:Hid (Below w.heap.size w w9):=xaQ ⟨ho1.trans B8.out.os,ho2.trans B8.out.tape,ho3.trans B8.out.output,Nat.le_trans B8.out.size ho4,fun i hi=>(ho5 i (Nat.lt_of_lt_of_le hi B8.out.size) (by omega)).trans (B8.out.block i hi)⟩
  have F9:=xaQ (four_at F8.out (ho5 w.heap.size (by omega) (by omega)))
  have S9:Hid (OwnI w9 _ _ l):=xaQ (S8.out.held (fun q hq hlt=>ho5 q hlt (fun h=>by have:=SL.out q hq;omega)))
  have G9:Hid (OwnI w9 _ _ l):=xaQ (G8.out.held (fun q hq hlt=>ho5 q hlt (fun h=>by have:=GL.out q hq;omega)))
  have z9:=ho4
  obtain ⟨r9,hr9⟩:∃ r:Int,1+3 * (cnts kk:Int)=r:=⟨_,rfl⟩
  have hr9':¬ r9<0:=by omega
  rw [hr9]
  clear ho1 ho2 ho3 ho4 ho5 q0 q1 q2 q3 X8 M8 S8 G8 F8 B8 hr9
  go_wp2_with fail
  refine (eqIntS_ok l ga sa gc sc _ HLM.out G9.out.at S9.out.at).mono ?_
  rintro e w10 ⟨rfl,hb10⟩
  have B10:=xaQ (xbQ B9.out hb10)
  have F10:=xaQ (F9.out.below hb10)
  have S10:=xaQ (S9.out.below hb10)
  have G10:=xaQ (G9.out.below hb10)
  have z10:=hb10.size
  clear hb10 B9 F9 S9 G9
  go_wp2_with fail
  refine (markIntS_ok l ga gc _ 1 _ (by omega) (by omega) (by omega) G10.out).mono ?_
  rintro e w11 ⟨rfl,go11,hg11⟩
  have B11:Hid (Below w.heap.size w w11):=xaQ (B10.out.grown hg11 B10.out.size (fun q hq=>by have:=GL.out q hq;omega))
  have F11:=xaQ (four_at F10.out (hg11.block w.heap.size (by omega) (fun e=>by have:=GL.out _ e.symm;omega)))
  have S11:=xaQ (S10.out.grown hg11 (fun q hq e=>by have h1:=SL.out q hq;have h2:=GL.out q e;omega))
  have G11:=xaQ go11
  have z11:=hg11.size
  clear hg11 go11 B10 F10 S10 G10
  go_wp2_with fail
  refine (heldIntS_ok l.length ga gc 1 _ (by omega) (by omega) (by omega) G11.out.at).mono ?_
  rintro e w12 ⟨rfl,rfl⟩
  obtain ⟨p0,p1,p2,p3⟩:=F11.out
  have hq0:¬ (1+(l.length:Int)<0):=by omega
  go_wp2_with fail
  refine (ygQ (.node k s m kk) a c _ HZ.out (HK.out.below B11.out)).mono ?_
  rintro e w13 ⟨⟨a13,c13,rfl,hk13,hcap13,hc13⟩,hb13⟩
  have B13:=xaQ (xbQ B11.out hb13)
  have K13:=xaQ (hk13.plain.lower (Nat.zero_le _))
  have C13:=xaQ (And.intro hcap13 hc13)
  have S13:=xaQ (S11.out.below hb13)
  have G13:=xaQ (G11.out.below hb13)
  clear hb13 hk13 hcap13 hc13 p0 p1 p2 p3 B11 F11 S11 G11
  go_wp2_with fail
  refine (HIP.out a13 c13 _ C13.out.1 C13.out.2 K13.out B13.out).mono ?_
  rintro e w14 ⟨ha,hcap,rfl,ho14,hb14⟩
  have B14:=xaQ (xbQ B13.out hb14)
  have S14:=xaQ (S13.out.below hb14)
  have G14:=xaQ (G13.out.below hb14)
  have H14:=xaQ ho14
  clear hb14 ho14 B13 K13 S13 G13
  go_wp2_with fail
  refine (eqIntS_ok l ha sa hcap sc _ HLM.out H14.out.at S14.out.at).mono ?_
  rintro e w15 ⟨rfl,hb15⟩
  have B15:=xaQ (xbQ B14.out hb15)
  have G15:=xaQ (G14.out.below hb15)
  clear hb15 B14 S14 G14 H14
  go_wp2_with fail
  refine (heldIntS_ok l.length ga gc 1 _ (by omega) (by omega) (by omega) G15.out.at).mono ?_
  rintro e w16 ⟨rfl,rfl⟩
  go_wp2
  go_ret
  exact ⟨rfl,B15.out⟩
def law_laid:List (String × DataW Unit):=[("math/bits.deBruijn32tab", Rows.laid_math_bits_deBruijn32tab),("math/bits.deBruijn64tab", Rows.laid_math_bits_deBruijn64tab),("internal/strconv.uint64pow10", Rows.laid_internal_strconv_uint64pow10),("errors.errorType", Rows.laid_errors_errorType)]
theorem ztQ (os:Os) (args:Array Value):laidMetH Tryz.prog law_laid ((World.doorLaid Tryz.prog 400 os).forCall (fun _ _=>0) ⟨#[],args,[]⟩).memory :=
 laidMetH_of_parts3 (fuel:=8) (laidMet_of_run' 8 (by kernel_rfl) (by kernel_rfl)) (by kernel_rfl) (by kernel_rfl)
theorem zRQ {W:World} (h:laidMetH Tryz.prog law_laid W):Lib.TabIs Tryz.prog W "internal/strconv.uint64pow10" .u64 Lib.pow10Tab:=by
 have h1:=h.filter (fun x=>x.1 == "internal/strconv.uint64pow10")
 have e:law_laid.filter (fun x=>x.1 == "internal/strconv.uint64pow10")=[("internal/strconv.uint64pow10", Lib.tabData .u64 Lib.pow10Tab)]:=by rfl
 rw [e,MakeChecks.laidMetH_plain _ _ _ (by kernel_rfl)] at h1
 exact Lib.tabIs_of_head (g:=2) (t:=224) (e:=218) (n:=20) (by kernel_rfl) (by kernel_rfl) Tryz.underlying224 Tryz.underlying218 (by kernel_rfl) (by kernel_rfl) h1
theorem law_rt:(Tryz.prog.cutTypes.find? (·.1 == "internal/reflectlite.rtype")).map (·.2)=some 136:=by kernel_rfl
theorem law_one:((List.range Tryz.prog.types.size).filter fun t=>Tryz.prog.rowNamed t [101,114,114,111,114])=[59]:=by kernel_rfl
theorem law_et:Tryz.prog.globalNamed "errors.errorType" = some 0:=by kernel_rfl
theorem law_handle {W:World} (h:laidMetH Tryz.prog law_laid W):W.cell? ⟨0,0,none⟩=some (.iface 136 (.agg #[.pointer (some ⟨5,59,none⟩)])):=by
 have h1:=h.filter (fun x=>x.1 == "errors.errorType")
 have e:law_laid.filter (fun x=>x.1 == "errors.errorType")=[("errors.errorType", Rows.laid_errors_errorType)]:=by rfl
 rw [e] at h1
 have h':laidMet Tryz.prog [] W∧handlesMet Tryz.prog [("errors.errorType", Rows.laid_errors_errorType)] W:=h1
 obtain ⟨name,u,ty,e1,e2,e3,e4,e5⟩:=h'.2 _ (List.mem_singleton.2 rfl)
 have en:name=[101,114,114,111,114]:=(Option.some.inj e1).symm
 subst en
 obtain rfl:=Option.some.inj (law_rt.symm.trans e2)
 have hm:ty∈(List.range Tryz.prog.types.size).filter fun t=>Tryz.prog.rowNamed t [101,114,114,111,114]:=List.mem_filter.2 ⟨List.mem_range.2 e3,e4⟩
 rw [law_one] at hm
 obtain rfl:=List.mem_singleton.1 hm
 have hh:typeHandle Tryz.prog 59=.pointer (some ⟨5,59,none⟩):=by kernel_rfl
 rw [hh] at e5
 simpa using World.var?_cell law_et e5 0
theorem law_lifted (os:Os) (started:os.Started) (H:Type) (enc:TypeId × Value→H) :
 ReturnsInHanded {} Tryz.checked os 7 .any (fun w args=>(Rows.fnExactSizesOfSpec.pre enc Tryz.prog Tryz.f7 [] false w args∧laidMetH Tryz.prog law_laid w)∧sizedMet enc Tryz.prog Tryz.f7 (OpenSpec.ofChange Rows.fnExactSizesOfSpec) false w args)
  (Rows.fnExactSizesOfSpec.post enc Tryz.prog Tryz.f7 false true false false):=by
 refine returnsInHanded_of_change_and (C:=Tryz.checked) (X:=fun w _=>laidMetH Tryz.prog law_laid w) (fun _ _ _ hh h=>h.of_heap hh) Tryz.own started (by kernel_rfl) Tryz.func7
  (ChangeSpec.witness_shaped (enc:=enc) (C:=Tryz.checked) (os:=os) (X:=fun w _=>laidMetH Tryz.prog law_laid w) false (World.doorLaid Tryz.prog 400 os) #[.agg #[.int .i64 0,.string ⟨#[]⟩,.int .i64 0,.slice none 0 0]] 8 rfl (World.shaped_of_RefB (by kernel_rfl) (by kernel_rfl)) (by kernel_rfl) (by kernel_rfl) (by kernel_rfl) (ztQ os _)) ?_
 intro W base args ds gs before hval0 hW _ _ hL _
 have hval:∀ (j:Nat) t v,Tryz.f7.params[j]?=some t→args[j]?=some v→Value.okWide Tryz.prog W .any base t v:=hval0
 have hW':=hW
 obtain ⟨p,q,hA0,hV,rfl,hfz,hnd⟩:=hW
 have hA:DataW.TrodAll enc Tryz.prog W 0 (fun _=>true) true Tryz.f7.params.toList args.toList ds p:=hA0
 rw [Tryz.params7] at hA hval
 obtain ⟨v0,d0,rfl,rfl,h0⟩:=trodAll_one hA
 obtain ⟨rfl,rfl⟩:=trodVars_none hV
 have k0:=h0
 have lt0:∀ x∈p,x.block<W.heap.size:=by obtain ⟨m,hm⟩:=k0;exact DataW.trod_lt m _ _ _ hm
 obtain ⟨c0,c1,c2,c3,y0,y1,y2,y3,m,hv,_,_,hy0,hy1,hy2,hy3⟩:=open_agg4 Tryz.underlying24 (by kernel_rfl) Tryz.cells24 (hval 0 24 v0 rfl rfl) h0
 obtain ⟨x0,e0,_,_⟩:=DataW.trod_int Tryz.underlying3 hy0
 obtain ⟨x1,e1,_,hs⟩:=DataW.trod_string Tryz.underlying9 hy1
 obtain ⟨x2,e2,_,_⟩:=DataW.trod_int Tryz.underlying3 hy2
 obtain ⟨a,c,kk,e3,hn,hk⟩:=open_kids _ (Nat.lt_succ_self _) hy3
 simp at e0 e1 e2
 subst e0 e1 e2 e3 hv
 clear hA0 hval0
 refine (law_walk x0 x1 x2 kk a c W hs hn hk (zRQ hL) (law_handle hL)).mono fun e W' ⟨he,bel⟩=>?_
 subst he
 exact ⟨_,rfl,_,_,_,[],_,[],hW',trodAll_mk1 (shut_bool Tryz.underlying4 _),trodAll_mk1 (Below.trod Tryz.laidOut (by kernel_rfl) (of_decide_eq_true (by kernel_rfl)) k0 bel lt0),rfl,bel.frame _,fun h=>by cases h⟩
theorem law_holds:Rows.FnExactSizesOfSaid :=
 OpenClaim.holds_of_wide 7 Tryz.f7 rfl rfl rfl rfl rfl rfl rfl ⟨rfl,rfl,rfl,rfl,rfl⟩ rfl rfl rfl rfl rfl (by kernel_rfl) Tryz.func7 (by kernel_rfl)
  (of_decide_eq_true (by kernel_rfl)) (by unfold Func.isWrapper;first | (rw [if_pos (by decide +kernel)];kernel_rfl) | (rw [if_neg (by decide +kernel)];exact ⟨rfl,rfl⟩))
  (fun os started H enc _=>law_lifted os started H enc)
theorem card_holds:Rows.FnExactSizesOfCardSaid :=
 Claim7.holds_tied_plain_at .later [] [.data,.data,.data,.handle] true (true, "a85153acc5abff651191a3c37cb51debfaf6d8a90b0c5991a0ca4506e66387ba") true
  law_holds (fun _ h=>by cases h) (by kernel_rfl) (fun _ h=>by cases h) fnExactSizesOf_row_tie rfl ⟨rfl,rfl⟩ (by kernel_rfl) rfl
  (fun f fn hf hfn=>by
   obtain rfl:f=7:=Option.some.inj ((show Tryz.prog.funcNamed "loop.example/g00093/laws.FnExactSizesOf" = some 7 by kernel_rfl).symm.trans hf) |>.symm
   obtain rfl:fn=Tryz.f7:=(Option.some.inj (Tryz.func7.symm.trans hfn)).symm
   exact ⟨by kernel_rfl,fun j t ht=>by
    rw [Tryz.params7] at ht
    have hm:t∈[24]:=by simpa using Array.mem_of_getElem? ht
    have hall:([24].all fun u=>!Tryz.prog.wantsStandIn u)=true:=by kernel_rfl
    exact (show Tryz.prog.wantsStandIn t=false by simpa using List.all_eq_true.1 hall t hm)⟩)
  (by kernel_rfl)
#print axioms card_holds
end Go.Proofs.YtocbgbkdlfkjjaaGreatDoor
