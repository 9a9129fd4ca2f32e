/- TREES IN MEMORY: what it means that a slice holds a list of trees; that this stays so where what they lie in stays as it was. -/
import Derived.Test.YtocbgbkdlfkjjaaGreatDoorRows
import Derived.Test.YtocbgbkdlfkjjaaGreatDoorMHa
import Derived.WalkKit
import Derived.WalkSpells
import Derived.WalkLawsBesides
import Derived.Deep.RegionHeld3
import Derived.Deep.RegionWith
import Derived.Below
import Derived.ProofKit
import Derived.OpenShut
import Derived.ShutString
import Derived.ChangeOld
import Derived.Lib.SmallJoins
set_option maxRecDepth 100000
set_option maxHeartbeats 1600000
namespace Go.Proofs.YtocbgbkdlfkjjaaGreatDoor
open Go.RowKit
inductive T where
 | node (k:Int) (s:ByteArray) (m:Int) (kids:List T)
theorem T.induct {P:T→Prop} (h:∀ k s m kk,(∀ t∈kk,P t)→P (.node k s m kk)):∀ t,P t
 | .node k s m kk=>h k s m kk fun t _=>T.induct h t
mutual
def bulk:T→Nat
 | .node _ s _ kk=>s.size+kk.length+bulks kk
def bulks:List T→Nat
 | []=>0
 | t :: r=>bulk t+bulks r
end
mutual
def cnt:T→Nat
 | .node _ _ _ kk=>1+cnts kk
def cnts:List T→Nat
 | []=>0
 | t :: r=>cnt t+cnts r
end
mutual
def dep:T→Nat
 | .node _ _ _ kk=>deps kk+1
def deps:List T→Nat
 | []=>0
 | t :: r=>max (dep t) (deps r)
end
def xXQ:T→List T
 | .node _ _ _ kk=>kk
mutual
def Lies (w:World) (lo:Nat):T→Nat→Nat→Prop
 | .node k s m kk,b,off=>w.cell? ⟨b,off,none⟩=some (.int .i64 k)∧w.cell? ⟨b,off+1,none⟩=some (.string s)∧w.cell? ⟨b,off+2,none⟩=some (.int .i64 m) ∧
  s.size≤maxLen∧kk.length≤maxLen∧∃ (a:Option Addr) (c:Nat),w.cell? ⟨b,off+3,none⟩=some (.slice a kk.length c) ∧
  (kk=[]∨∃ b' o',a=some ⟨b',o',none⟩∧lo≤b'∧LiesL w lo kk b' o')
def LiesL (w:World) (lo:Nat):List T→Nat→Nat→Prop
 | [],_,_=>True
 | t :: r,b,off=>Lies w lo t b off∧LiesL w lo r b (off+4)
end
def Kids (w:World) (lo:Nat) (a:Option Addr) (kk:List T):Prop:=kk=[]∨∃ b' o',a=some ⟨b',o',none⟩∧lo≤b'∧LiesL w lo kk b' o'
theorem LiesL.get {w:World} {lo b:Nat}:∀ {ks:List T} {off i:Nat} {t:T},LiesL w lo ks b off→ks[i]?=some t→Lies w lo t b (off+i * 4)
 | [],_,_,_,_,h=>by simp at h
 | x :: r,off,0,t,h,ht=>by
  simp at ht
  subst ht
  unfold LiesL at h
  simpa using h.1
 | x :: r,off,i+1,t,h,ht=>by
  unfold LiesL at h
  simp at ht
  have:=LiesL.get h.2 ht
  rwa [show off+4+i * 4=off+(i+1) * 4 by omega] at this
theorem LiesL.of {w:World} {lo b:Nat}:∀ {ks:List T} {off:Nat},(∀ i t,ks[i]?=some t→Lies w lo t b (off+i * 4))→LiesL w lo ks b off
 | [],_,_=>by unfold LiesL;trivial
 | x :: r,off,h=>by
  unfold LiesL
  refine ⟨by simpa using h 0 x rfl,LiesL.of fun i t ht=>?_⟩
  have:=h (i+1) t (by simpa using ht)
  rwa [show off+(i+1) * 4=off+4+i * 4 by omega] at this
mutual
theorem Lies.stay {w w':World} {lo:Nat} (h:∀ b o,lo≤b→b<w.heap.size→w'.cell? ⟨b,o,none⟩=w.cell? ⟨b,o,none⟩):∀ (t:T) (b off:Nat),(∀ o,off≤o→o<off+4→w'.cell? ⟨b,o,none⟩=w.cell? ⟨b,o,none⟩)→Lies w lo t b off→Lies w' lo t b off
 | .node k s m kk,b,off,hb,hl=>by
  unfold Lies at hl ⊢
  obtain ⟨h0,h1,h2,hs,hn,a,c,h3,hk⟩:=hl
  refine ⟨(hb _ (by omega) (by omega)).trans h0,(hb _ (by omega) (by omega)).trans h1,(hb _ (by omega) (by omega)).trans h2,hs,hn,a,c,(hb _ (by omega) (by omega)).trans h3,?_⟩
  rcases hk with hk | ⟨b',o',e,hlo,hk⟩
  ·exact .inl hk
  ·exact .inr ⟨b',o',e,hlo,LiesL.stay h kk b' o' hlo hk⟩
theorem LiesL.stay {w w':World} {lo:Nat} (h:∀ b o,lo≤b→b<w.heap.size→w'.cell? ⟨b,o,none⟩=w.cell? ⟨b,o,none⟩):∀ (ks:List T) (b off:Nat),lo≤b→LiesL w lo ks b off→LiesL w' lo ks b off
 | [],_,_,_,_=>by unfold LiesL;trivial
 | t :: r,b,off,hb,hl=>by
  unfold LiesL at hl ⊢
  refine ⟨Lies.stay h t b off (fun o _ _=>h b o hb ?_) hl.1,LiesL.stay h r b (off+4) hb hl.2⟩
  have:=hl.1
  cases t
  unfold Lies at this
  exact World.block_lt_of_cell? w _ this.1
end
mutual
theorem Lies.lower {w:World} {lo lo':Nat} (h:lo'≤lo):∀ (t:T) (b off:Nat),Lies w lo t b off→Lies w lo' t b off
 | .node k s m kk,b,off,hl=>by
  unfold Lies at hl ⊢
  obtain ⟨h0,h1,h2,hs,hn,a,c,h3,hk⟩:=hl
  refine ⟨h0,h1,h2,hs,hn,a,c,h3,?_⟩
  rcases hk with hk | ⟨b',o',e,hlo,hk⟩
  ·exact .inl hk
  ·exact .inr ⟨b',o',e,Nat.le_trans h hlo,LiesL.lower h kk b' o' hk⟩
theorem LiesL.lower {w:World} {lo lo':Nat} (h:lo'≤lo):∀ (ks:List T) (b off:Nat),LiesL w lo ks b off→LiesL w lo' ks b off
 | [],_,_,_=>by unfold LiesL;trivial
 | t :: r,b,off,hl=>by
  unfold LiesL at hl ⊢
  exact ⟨Lies.lower h t b off hl.1,LiesL.lower h r b (off+4) hl.2⟩
end
theorem Kids.stay {w w':World} {lo:Nat} (h:∀ b o,lo≤b→b<w.heap.size→w'.cell? ⟨b,o,none⟩=w.cell? ⟨b,o,none⟩) {a:Option Addr} {kk:List T} (hk:Kids w lo a kk):Kids w' lo a kk:=by
 rcases hk with hk | ⟨b',o',e,hlo,hk⟩
 ·exact .inl hk
 ·exact .inr ⟨b',o',e,hlo,LiesL.stay h kk b' o' hlo hk⟩
theorem Kids.lower {w:World} {lo lo':Nat} (h:lo'≤lo) {a:Option Addr} {kk:List T} (hk:Kids w lo a kk):Kids w lo' a kk:=by
 rcases hk with hk | ⟨b',o',e,hlo,hk⟩
 ·exact .inl hk
 ·exact .inr ⟨b',o',e,Nat.le_trans h hlo,LiesL.lower h kk b' o' hk⟩
theorem Kids.below {w w':World} {lo:Nat} {a:Option Addr} {kk:List T} (hk:Kids w lo a kk) (hb:Below w.heap.size w w'):Kids w' lo a kk:=hk.stay fun b o _ h=>hb.cell (p:=⟨b,o,none⟩) h
theorem LiesL.below {w w':World} {lo b off:Nat} {ks:List T} (hk:LiesL w lo ks b off) (hlo:lo≤b) (hb:Below w.heap.size w w'):LiesL w' lo ks b off:=LiesL.stay (fun b o _ h=>hb.cell (p:=⟨b,o,none⟩) h) _ _ _ hlo hk
theorem LiesL.at {w:World} {lo b off i:Nat} {ks kk:List T} {k m:Int} {s:ByteArray} (h:LiesL w lo ks b off) (hi:ks[i]?=some (.node k s m kk)) :
    ∃ (a:Option Addr) (c:Nat),w.cell? ⟨b,off+i * 4,none⟩=some (.int .i64 k)∧w.cell? ⟨b,off+i * 4+1,none⟩=some (.string s)∧w.cell? ⟨b,off+i * 4+2,none⟩=some (.int .i64 m)∧w.cell? ⟨b,off+i * 4+3,none⟩=some (.slice a kk.length c) ∧
      s.size≤maxLen∧kk.length≤maxLen∧Kids w lo a kk:=by
 have:=h.get hi
 unfold Lies at this
 obtain ⟨h0,h1,h2,hs,hn,a,c,h3,hk⟩:=this
 exact ⟨a,c,h0,h1,h2,h3,hs,hn,hk⟩
theorem bulks_take {ks:List T} {i:Nat} {t:T} (h:ks[i]?=some t):bulks (ks.take (i+1))=bulks (ks.take i)+bulk t:=by
 induction ks generalizing i with
 | nil=>simp at h
 | cons x r ih =>
  cases i with
  | zero=>simp at h;subst h;simp [bulks]
  | succ i =>
   simp at h
   have:=ih h
   simp only [List.take_succ_cons,bulks] at this ⊢
   omega
theorem cnts_take {ks:List T} {i:Nat} {t:T} (h:ks[i]?=some t):cnts (ks.take (i+1))=cnts (ks.take i)+cnt t:=by
 induction ks generalizing i with
 | nil=>simp at h
 | cons x r ih =>
  cases i with
  | zero=>simp at h;subst h;simp [cnts]
  | succ i =>
   simp at h
   have:=ih h
   simp only [List.take_succ_cons,cnts] at this ⊢
   omega
theorem deps_take {ks:List T} {i:Nat} {t:T} (h:ks[i]?=some t):deps (ks.take (i+1))=max (deps (ks.take i)) (dep t):=by
 induction ks generalizing i with
 | nil=>simp at h
 | cons x r ih =>
  cases i with
  | zero=>simp at h;subst h;simp [deps]
  | succ i =>
   simp at h
   have:=ih h
   simp only [List.take_succ_cons,deps] at this ⊢
   omega
def SzOk (t:T):Prop:=match t with
 | .node k s m kk=>∀ (a:Option Addr) (c:Nat) (n:Int) (w:World),s.size≤maxLen→kk.length≤maxLen→Kids w 0 a kk→0≤n→n≤1048576 →
  Calls Tryz.prog 10 #[.agg #[.int .i64 k,.string s,.int .i64 m,.slice a kk.length c],.int .i64 n] w fun e w' =>
   (∃ r:Int,e=.returned (.int .i64 r)∧(r<0∨0≤r∧r+bulk t=n))∧Below w.heap.size w w'
theorem szNodeS_of (kk:List T) (IH:∀ t∈kk,SzOk t) (b off c:Nat) (n:Int) (w:World) (hn:kk.length≤maxLen) (hl:LiesL w 0 kk b off) (h0:0≤n) (h1:n≤1048576) :
    Calls Tryz.prog 37 #[.slice (some ⟨b,off,none⟩) kk.length c,.int .i64 n] w fun e w' =>
     (∃ r:Int,e=.returned (.int .i64 r)∧(r<0∨0≤r∧r+kk.length+bulks kk=n))∧Below w.heap.size w w':=by
 unfold maxLen at hn
 have HL:=xaQ hl
 have HI:=xaQ IH
 clear hl IH
 by_cases h:n - (kk.length:Int)<0
 ·go_enter Tryz.func37,Tryz.ntmps37
  go_wp2
  go_ret
  exact ⟨⟨_,rfl,.inl (by decide)⟩,Below.refl _ _⟩
 ·go_enter Tryz.func37,Tryz.ntmps37
  go_wp2
  go_loopw [1,5] (fun l i w'=>∃ (k:Nat) (r:Int),k≤kk.length∧i=.int .i64 k∧l=.int .i64 r∧0≤r∧r+kk.length+bulks (kk.take k)=n∧Below w.heap.size w w') (fun _ i _=>kk.length - (intOf i).toNat)
  case atStart=>exact ⟨0,_,Nat.zero_le _,rfl,rfl,by omega,by simp [bulks],Below.refl _ _⟩
  case round =>
   obtain ⟨k,r,hk,rfl,rfl,hr0,hr1,hbel⟩:=hrel
   have HB:=xaQ hbel
   have HR:=xaQ hr1
   have hrn:r≤1048576:=by omega
   clear hbel hr1
   by_cases hlt:k<kk.length
   ·obtain ⟨x,hx⟩:∃ x,kk[k]?=some x:=⟨_,List.getElem?_eq_getElem hlt⟩
    have HX:=xaQ hx
    obtain ⟨xk,xs,xm,xkk⟩:=x
    obtain ⟨xa,xc,hc0,hc1,hc2,hc3,hs,hkn,hkids⟩:=(HL.out.below (Nat.zero_le _) HB.out).at hx
    have HC:=xaQ (HI.out _ (List.mem_of_getElem? hx) xa xc r wr hs hkn hkids hr0 hrn)
    clear hx hs hkn hkids
    go_wp2_with fail
    refine HC.out.mono ?_
    rintro e w1 ⟨⟨m1,rfl,hm⟩,hb1⟩
    have HB1:=xaQ (HB.out.trans (hb1.mono HB.out.size))
    have HM:=xaQ hm
    clear hb1 hm HC
    by_cases hneg:m1<0
    ·go_wp2
     go_ret
     exact ⟨⟨_,rfl,.inl (by decide)⟩,HB1.out⟩
    ·go_wp2
     go_roundw
     case rel =>
      have h2:=HM.out
      have h3:=HR.out
      have h4:=bulks_take HX.out
      exact ⟨k+1,m1,by omega,by go_num,rfl,by omega,by omega,HB1.out⟩
     case measure=>simp [intOf];omega
   ·go_wp2
    go_ret
    have h3:=HR.out
    rw [List.take_of_length_le (by omega)] at h3
    exact ⟨⟨_,rfl,.inr ⟨hr0,h3⟩⟩,HB.out⟩
theorem szNodeS_nil (a:Option Addr) (c:Nat) (n:Int) (w:World) (h0:0≤n) (h1:n≤1048576) :
    Calls Tryz.prog 37 #[.slice a 0 c,.int .i64 n] w fun e w'=>(∃ r:Int,e=.returned (.int .i64 r)∧(r<0∨0≤r∧r=n))∧Below w.heap.size w w':=by
 go_enter Tryz.func37,Tryz.ntmps37
 go_wp2
 go_loopw [1,5] (fun l i w'=>i=.int .i64 0∧l=.int .i64 n∧w'=w) (fun _ i _=>0)
 case atStart=>exact ⟨rfl,by go_num,rfl⟩
 case round =>
  obtain ⟨rfl,rfl,rfl⟩:=hrel
  go_wp2
  go_ret
  exact ⟨⟨_,rfl,.inr ⟨h0,rfl⟩⟩,Below.refl _ _⟩
theorem szNodeS_kids (kk:List T) (IH:∀ t∈kk,SzOk t) (a:Option Addr) (c:Nat) (n:Int) (w:World) (hn:kk.length≤maxLen) (hl:Kids w 0 a kk) (h0:0≤n) (h1:n≤1048576) :
    Calls Tryz.prog 37 #[.slice a kk.length c,.int .i64 n] w fun e w' =>
     (∃ r:Int,e=.returned (.int .i64 r)∧(r<0∨0≤r∧r+kk.length+bulks kk=n))∧Below w.heap.size w w':=by
 rcases hl with rfl | ⟨b,o,rfl,_,hl⟩
 ·refine (szNodeS_nil a c n w h0 h1).mono ?_
  rintro e w' ⟨⟨r,rfl,h⟩,hb⟩
  exact ⟨⟨r,rfl,by simpa [bulks] using h⟩,hb⟩
 ·exact szNodeS_of kk IH b o c n w hn hl h0 h1
theorem szNode_ok (t:T):SzOk t:=by
 refine T.induct ?_ t
 intro k s m kk IH a c n w hs hn hk h0 h1
 unfold maxLen at hs
 have HN:=xaQ hn
 have HI:=xaQ IH
 have HK:=xaQ hk
 clear hn IH hk
 by_cases h:n - (s.size:Int)<0
 ·go_enter Tryz.func10,Tryz.ntmps10
  go_wp2
  go_ret
  exact ⟨⟨_,rfl,.inl (by decide)⟩,(Below.refl _ _).alloc (Nat.le_refl _) _⟩
 ·go_enter Tryz.func10,Tryz.ntmps10
  go_wp2_with fail
  refine (szNodeS_kids kk HI.out a c _ _ HN.out (HK.out.below ((Below.refl _ _).alloc (Nat.le_refl _) _)) (by omega) (by omega)).mono ?_
  rintro e w1 ⟨⟨m1,rfl,hm⟩,hb1⟩
  have HB1:=xaQ (xbQ ((Below.refl _ _).alloc (Nat.le_refl _) _) hb1)
  have HM:=xaQ hm
  clear hb1 hm
  by_cases hneg:m1<0
  ·go_wp2
   go_ret
   exact ⟨⟨_,rfl,.inl (by decide)⟩,HB1.out⟩
  ·go_wp2
   go_ret
   have:=HM.out
   refine ⟨⟨_,rfl,.inr ⟨by omega,?_⟩⟩,HB1.out⟩
   unfold bulk
   omega
theorem Tryz.info31:(Tryz.prog.info? 31).map (fun i=>(i.zero,i.size,i.bytes))=some (some (.agg #[.int .i64 0,.string ByteArray.empty,.int .i64 0,.slice none 0 0]),4,56):=by kernel_rfl
theorem zpQ {w w':World} {base e size n:Nat} {v:Value} {xs:List Value} (h:w.ownsRow base e size v n xs) (hb:Below w.heap.size w w'):w'.ownsRow base e size v n xs :=
 h.kept (row:=none) ⟨hb.os,hb.tape,hb.output,hb.size,fun k hk _=>hb.block k hk⟩ (by cases v.ownBlock <;> simp)
theorem bulk_mem {ks:List T} {t:T} (h:t∈ks):bulk t≤bulks ks:=by
 induction ks with
 | nil=>cases h
 | cons x r ih =>
  simp only [bulks]
  rcases List.mem_cons.1 h with rfl | h
  ·omega
  ·have:=ih h;omega
theorem bulk_node {k m:Int} {s:ByteArray} {kk:List T}:bulk (.node k s m kk)=s.size+kk.length+bulks kk:=by simp only [bulk]
theorem four_stay {w:World} {g o:Nat} {v0 v1 v2 v3:Value} {b j:Nat} (h:b≠g∨j<o∨o+4≤j) :
    ((((w.setCell ⟨g,o,none⟩ v0).setCell ⟨g,o+1,none⟩ v1).setCell ⟨g,o+2,none⟩ v2).setCell ⟨g,o+3,none⟩ v3).cell? ⟨b,j,none⟩=w.cell? ⟨b,j,none⟩:=by
 rw [World.cell?_setCell_other,World.cell?_setCell_other,World.cell?_setCell_other,World.cell?_setCell_other] <;> (intro e;injection e with e1 e2;omega)
def EqOk (t:T):Prop:=match t with
 | .node k s m kk=>∀ (a a':Option Addr) (c c':Nat) (w:World),kk.length≤maxLen→Kids w 0 a kk→Kids w 0 a' kk →
  Calls Tryz.prog 15 #[.agg #[.int .i64 k,.string s,.int .i64 m,.slice a kk.length c],.agg #[.int .i64 k,.string s,.int .i64 m,.slice a' kk.length c']] w fun e w'=>e=.returned (.bool true)∧Below w.heap.size w w'
theorem eqNodeS_of (kk:List T) (IH:∀ t∈kk,EqOk t) (b off c b' off' c':Nat) (w:World) (hn:kk.length≤maxLen) (hl:LiesL w 0 kk b off) (hl':LiesL w 0 kk b' off') :
    Calls Tryz.prog 46 #[.slice (some ⟨b,off,none⟩) kk.length c,.slice (some ⟨b',off',none⟩) kk.length c'] w fun e w'=>e=.returned (.bool true)∧Below w.heap.size w w':=by
 unfold maxLen at hn
 have HL:=xaQ hl
 have HL':=xaQ hl'
 have HI:=xaQ IH
 clear hl hl' IH
 go_enter Tryz.func46,Tryz.ntmps46
 go_wp2
 go_loopw [5] (fun i w'=>∃ (k:Nat),k≤kk.length∧i=.int .i64 k∧Below w.heap.size w w') (fun i _=>kk.length - (intOf i).toNat)
 case atStart=>exact ⟨0,Nat.zero_le _,rfl,Below.refl _ _⟩
 case round =>
  obtain ⟨k,hk,rfl,hbel⟩:=hrel
  have HB:=xaQ hbel
  clear hbel
  by_cases hlt:k<kk.length
  ·obtain ⟨x,hx⟩:∃ x,kk[k]?=some x:=⟨_,List.getElem?_eq_getElem hlt⟩
   obtain ⟨xk,xs,xm,xkk⟩:=x
   obtain ⟨xa,xc,hc0,hc1,hc2,hc3,hs,hkn,hkids⟩:=(HL.out.below (Nat.zero_le _) HB.out).at hx
   obtain ⟨ya,yc,hd0,hd1,hd2,hd3,_,_,hkids'⟩:=(HL'.out.below (Nat.zero_le _) HB.out).at hx
   have HE:=xaQ (HI.out _ (List.mem_of_getElem? hx))
   have HK:=xaQ hkids
   have HK':=xaQ hkids'
   have HKN:=xaQ hkn
   clear hx hs hkids hkids' hkn
   have hlb:b<wr.heap.size:=World.block_lt_of_cell? wr _ hc0
   have hlb':b'<wr.heap.size:=World.block_lt_of_cell? wr _ hd0
   have i0:(0:Int)≤(k:Int):=by omega
   have i1:(k:Int)<(kk.length:Int):=by omega
   go_wp2
   go_region_held3 (fun w'=>w'.cell? ⟨b,off+k * 4,none⟩=some (.int .i64 xk)∧w'.cell? ⟨b,off+k * 4+1,none⟩=some (.string xs)∧w'.cell? ⟨b,off+k * 4+2,none⟩=some (.int .i64 xm)∧w'.cell? ⟨b,off+k * 4+3,none⟩=some (.slice xa xkk.length xc)∧w'.cell? ⟨b',off'+k * 4,none⟩=some (.int .i64 xk)∧w'.cell? ⟨b',off'+k * 4+1,none⟩=some (.string xs)∧w'.cell? ⟨b',off'+k * 4+2,none⟩=some (.int .i64 xm)∧w'.cell? ⟨b',off'+k * 4+3,none⟩=some (.slice ya xkk.length yc)) (first | exact ⟨hc0,hc1,hc2,hc3,hd0,hd1,hd2,hd3⟩ | exact ⟨(hc _ _ hlb).trans hc0,(hc _ _ hlb).trans hc1,(hc _ _ hlb).trans hc2,(hc _ _ hlb).trans hc3,(hc _ _ hlb').trans hd0,(hc _ _ hlb').trans hd1,(hc _ _ hlb').trans hd2,(hc _ _ hlb').trans hd3⟩)
    (first | (go_at_call 15;refine (HE.out xa ya xc yc _ HKN.out (HK.out.below (Below.refl _ _).drew) (HK'.out.below (Below.refl _ _).drew)).mono ?_;rintro e w1 ⟨rfl,hb1⟩;obtain ⟨hc,hf⟩:=ykQ hb1))
   have HB1:Hid (Below w.heap.size w w1):=HB.out.drew.trans (hb1.mono HB.out.drew.size)
   clear hb1 hc hf
   go_wp2
   go_roundw
   case rel=>exact ⟨k+1,by omega,by go_num,HB1.out⟩
   case measure=>simp [intOf];omega
  ·go_wp2
   go_ret
   exact ⟨rfl,HB.out⟩
theorem eqNodeS_nil (a a':Option Addr) (c c':Nat) (w:World):Calls Tryz.prog 46 #[.slice a 0 c,.slice a' 0 c'] w fun e w'=>e=.returned (.bool true)∧Below w.heap.size w w':=by
 go_enter Tryz.func46,Tryz.ntmps46
 go_wp2
 go_loopw [5] (fun i w'=>i=.int .i64 0∧w'=w) (fun i _=>0)
 case atStart=>exact ⟨rfl,rfl⟩
 case round =>
  obtain ⟨rfl,rfl⟩:=hrel
  go_wp2
  go_ret
  exact ⟨rfl,Below.refl _ _⟩
theorem eqNodeS_kids (kk:List T) (IH:∀ t∈kk,EqOk t) (a a':Option Addr) (c c':Nat) (w:World) (hn:kk.length≤maxLen) (hl:Kids w 0 a kk) (hl':Kids w 0 a' kk) :
    Calls Tryz.prog 46 #[.slice a kk.length c,.slice a' kk.length c'] w fun e w'=>e=.returned (.bool true)∧Below w.heap.size w w':=by
 rcases hl with rfl | ⟨b,o,rfl,_,hl⟩
 ·exact eqNodeS_nil a a' c c' w
 ·rcases hl' with rfl | ⟨b',o',rfl,_,hl'⟩
  ·exact eqNodeS_nil _ a' c c' w
  ·exact eqNodeS_of kk IH b o c b' o' c' w hn hl hl'
theorem eqNode_ok (t:T):EqOk t:=by
 refine T.induct ?_ t
 intro k s m kk IH a a' c c' w hn hk hk'
 have HN:=xaQ hn
 have HI:=xaQ IH
 have HK:=xaQ hk
 have HK':=xaQ hk'
 clear hn IH hk hk'
 go_enter Tryz.func15,Tryz.ntmps15
 go_wp2_with fail
 refine (eqNodeS_kids kk HI.out a a' c c' _ HN.out (HK.out.below (((Below.refl w.heap.size w).alloc (Nat.le_refl _) _).alloc (by simp) _)) (HK'.out.below (((Below.refl w.heap.size w).alloc (Nat.le_refl _) _).alloc (by simp) _))).mono ?_
 rintro e w1 ⟨rfl,hb1⟩
 have HB:=xaQ (xbQ (((Below.refl w.heap.size w).alloc (Nat.le_refl _) _).alloc (by simp) _) hb1)
 clear hb1
 go_wp2
 go_ret
 exact ⟨rfl,HB.out⟩
mutual
theorem cnt_le:∀ t,cnt t≤1+bulk t
 | .node k s m kk=>by
  have:=cnts_le kk
  simp only [cnt,bulk]
  omega
theorem cnts_le:∀ kk,cnts kk≤kk.length+bulks kk
 | []=>by simp [cnts]
 | t :: r=>by
  have:=cnt_le t
  have:=cnts_le r
  simp only [cnts,bulks,List.length_cons]
  omega
end
mutual
theorem dep_le:∀ t,dep t≤cnt t
 | .node k s m kk=>by
  have:=deps_le kk
  simp only [cnt,dep]
  omega
theorem deps_le:∀ kk,deps kk≤cnts kk
 | []=>by simp [cnts,deps]
 | t :: r=>by
  have:=dep_le t
  have:=deps_le r
  simp only [cnts,deps]
  omega
end
theorem zqQ {ks:List T} {t:T} (h:t∈ks):cnt t≤cnts ks:=by
 induction ks with
 | nil=>cases h
 | cons x r ih =>
  simp only [cnts]
  rcases List.mem_cons.1 h with rfl | h
  ·omega
  ·have:=ih h;omega
theorem zuQ (ks:List T) (i:Nat):cnts (ks.take i)≤cnts ks:=by
 induction ks generalizing i with
 | nil=>simp
 | cons x r ih=>cases i <;> simp [cnts,ih]
theorem deps_take_le (ks:List T) (i:Nat):deps (ks.take i)≤deps ks:=by
 induction ks generalizing i with
 | nil=>simp
 | cons x r ih =>
  cases i with
  | zero=>simp [deps]
  | succ i =>
   simp only [List.take_succ_cons,deps]
   have:=ih i
   omega
def SCount (t:T):Prop:=match t with
 | .node k s m kk=>∀ (a:Option Addr) (c:Nat) (w:World),kk.length≤maxLen→cnt t≤1048577→Kids w 0 a kk →
  Calls Tryz.prog 88 #[.agg #[.int .i64 k,.string s,.int .i64 m,.slice a kk.length c]] w fun e w'=>e=.returned (.int .i64 (cnt t))∧Below w.heap.size w w'
theorem sCount_ok (t:T):SCount t:=by
 refine T.induct ?_ t
 intro k s m kk IH a c w hn hc hk
 have hc':cnts kk≤1048576:=by simp only [cnt] at hc;omega
 unfold maxLen at hn
 have HI:=xaQ IH
 have HK:=xaQ hk
 have A0:=xaQ ((Below.refl w.heap.size w).alloc (Nat.le_refl _) (.cells #[.int .i64 k,.string s,.int .i64 m,.slice a kk.length c] 31))
 clear IH hk hc
 go_enter Tryz.func88,Tryz.ntmps88
 go_wp2
 go_loopw [3,4] (fun l i w'=>∃ (j:Nat),j≤kk.length∧i=.int .i64 j∧l=.int .i64 (1+cnts (kk.take j))∧Below w.heap.size w w'∧w'.cell? ⟨w.heap.size,3,none⟩=some (.slice a kk.length c)) (fun _ i _=>kk.length - (intOf i).toNat)
 case atStart=>exact ⟨0,Nat.zero_le _,rfl,by simp [cnts],A0.out,by simp [go_sem]⟩
 case round =>
  obtain ⟨j,hj,rfl,rfl,hbel,hcell⟩:=hrel
  have HB:=xaQ hbel
  clear hbel A0
  by_cases hlt:j<kk.length
  ·obtain ⟨x,hx⟩:∃ x,kk[j]?=some x:=⟨_,List.getElem?_eq_getElem hlt⟩
   have HX:=xaQ hx
   have hlo:cnts (kk.take j)≤1048576:=Nat.le_trans (zuQ kk j) hc'
   rcases HK.out with rfl | ⟨b,o,rfl,_,hl⟩
   ·simp at hx
   obtain ⟨xk,xs,xm,xkk⟩:=x
   obtain ⟨xa,xc,hc0,hc1,hc2,hc3,hs,hkn,hkids⟩:=(hl.below (Nat.zero_le _) HB.out).at hx
   have HC:=xaQ (fun W (hW:Below wr.heap.size wr W)=>HI.out _ (List.mem_of_getElem? hx) xa xc W hkn (Nat.le_trans (zqQ (List.mem_of_getElem? hx)) (by omega)) (hkids.below hW))
   clear hx hs hkn hkids hl
   have hlb:b<wr.heap.size:=World.block_lt_of_cell? wr _ hc0
   have hlw:w.heap.size<wr.heap.size:=World.block_lt_of_cell? wr _ hcell
   have HM:=xaQ (And.intro hlb hlw)
   clear hlb hlw
   go_wp2_with fail
   refine (HC.out _ (Below.refl _ _)).mono ?_
   rintro e w1 ⟨rfl,hb1⟩
   have HB1:=xaQ (HB.out.trans (hb1.mono HB.out.size))
   have hcell1:=(hb1.cell (p:=⟨w.heap.size,3,none⟩) HM.out.2).trans hcell
   have hx3:(1:Int)+cnts (kk.take j)+cnt (.node xk xs xm xkk)=1+cnts (kk.take (j+1)):=by have:=cnts_take HX.out;omega
   have hx4:cnts (kk.take (j+1))≤1048576:=Nat.le_trans (zuQ kk (j+1)) hc'
   have HX3:=xaQ hx3
   clear hb1 hx3
   have hq:(1:Int)+cnts (kk.take j)+cnt (.node xk xs xm xkk)≤2000000:=by rw [HX3.out];omega
   go_wp2
   go_roundw
   case rel=>exact ⟨j+1,by omega,by go_num,by rw [← HX3.out],HB1.out,hcell1⟩
   case measure=>simp [intOf];omega
  ·go_wp2
   go_ret
   refine ⟨?_,HB.out⟩
   rw [List.take_of_length_le (by omega)]
   simp [cnt]
def SDepth (t:T):Prop:=match t with
 | .node k s m kk=>∀ (a:Option Addr) (c:Nat) (w:World),kk.length≤maxLen→cnt t≤1048577→Kids w 0 a kk →
  Calls Tryz.prog 89 #[.agg #[.int .i64 k,.string s,.int .i64 m,.slice a kk.length c]] w fun e w'=>e=.returned (.int .i64 (dep t))∧Below w.heap.size w w'
theorem sDepth_ok (t:T):SDepth t:=by
 refine T.induct ?_ t
 intro k s m kk IH a c w hn hc hk
 have hc':cnts kk≤1048576:=by simp only [cnt] at hc;omega
 unfold maxLen at hn
 have HI:=xaQ IH
 have HK:=xaQ hk
 have A0:=xaQ ((Below.refl w.heap.size w).alloc (Nat.le_refl _) (.cells #[.int .i64 k,.string s,.int .i64 m,.slice a kk.length c] 31))
 clear IH hk hc
 go_enter Tryz.func89,Tryz.ntmps89
 go_wp2
 go_loopw [3,4] (fun l i w'=>∃ (j:Nat),j≤kk.length∧i=.int .i64 j∧l=.int .i64 (deps (kk.take j))∧Below w.heap.size w w'∧w'.cell? ⟨w.heap.size,3,none⟩=some (.slice a kk.length c)) (fun _ i _=>kk.length - (intOf i).toNat)
 case atStart=>exact ⟨0,Nat.zero_le _,rfl,by simp [deps],A0.out,by simp [go_sem]⟩
 case round =>
  obtain ⟨j,hj,rfl,rfl,hbel,hcell⟩:=hrel
  have HB:=xaQ hbel
  clear hbel A0
  by_cases hlt:j<kk.length
  ·obtain ⟨x,hx⟩:∃ x,kk[j]?=some x:=⟨_,List.getElem?_eq_getElem hlt⟩
   have HX:=xaQ hx
   have hlo:cnts (kk.take j)≤1048576:=Nat.le_trans (zuQ kk j) hc'
   rcases HK.out with rfl | ⟨b,o,rfl,_,hl⟩
   ·simp at hx
   obtain ⟨xk,xs,xm,xkk⟩:=x
   obtain ⟨xa,xc,hc0,hc1,hc2,hc3,hs,hkn,hkids⟩:=(hl.below (Nat.zero_le _) HB.out).at hx
   have HC:=xaQ (fun W (hW:Below wr.heap.size wr W)=>HI.out _ (List.mem_of_getElem? hx) xa xc W hkn (Nat.le_trans (zqQ (List.mem_of_getElem? hx)) (by omega)) (hkids.below hW))
   clear hx hs hkn hkids hl
   have hlb:b<wr.heap.size:=World.block_lt_of_cell? wr _ hc0
   have hlw:w.heap.size<wr.heap.size:=World.block_lt_of_cell? wr _ hcell
   have HM:=xaQ (And.intro hlb hlw)
   clear hlb hlw
   go_wp2_with fail
   refine (HC.out _ (Below.refl _ _)).mono ?_
   rintro e w1 ⟨rfl,hb1⟩
   have HB1:=xaQ (HB.out.trans (hb1.mono HB.out.size))
   have hcell1:=(hb1.cell (p:=⟨w.heap.size,3,none⟩) HM.out.2).trans hcell
   have hx4:dep (.node xk xs xm xkk)≤1048577:=Nat.le_trans (dep_le _) (Nat.le_trans (zqQ (List.mem_of_getElem? HX.out)) (by omega))
   have hlo':deps (kk.take j)≤1048576:=Nat.le_trans (deps_take_le kk j) (Nat.le_trans (deps_le kk) hc')
   have HX3:=xaQ (deps_take HX.out)
   clear hb1
   by_cases hgt:(deps (kk.take j):Int)<dep (.node xk xs xm xkk)
   ·go_wp2
    go_roundw
    case rel=>exact ⟨j+1,by omega,by go_num,by rw [HX3.out,Nat.max_eq_right (by omega)],HB1.out,hcell1⟩
    case measure=>simp [intOf];omega
   ·go_wp2
    go_roundw
    case rel=>exact ⟨j+1,by omega,by go_num,by rw [HX3.out,Nat.max_eq_left (by omega)],HB1.out,hcell1⟩
    case measure=>simp [intOf];omega
  ·have hlo':deps kk≤1048576:=Nat.le_trans (deps_le kk) hc'
   have e:kk.take j=kk:=List.take_of_length_le (by omega)
   rw [e]
   go_wp2
   go_ret
   refine ⟨?_,HB.out⟩
   simp [dep]
end Go.Proofs.YtocbgbkdlfkjjaaGreatDoor
namespace Go.Proofs.YtocbgbkdlfkjjaaGreatDoor
open Go.ChangeShapes Go.WideShapes Go.ChangeAt Go.RowKit Go.Joins Go.Deep
theorem Tryz.own:ownKnob Tryz.prog.godebug=none:=by kernel_rfl
theorem Tryz.laidOut:laidOutB Tryz.prog=true:=by kernel_rfl
theorem Tryz.cells24:Tryz.prog.cellsOf 24=4:=by kernel_rfl
theorem Tryz.cells3:Tryz.prog.cellsOf 3=1:=by kernel_rfl
theorem Tryz.cells9:Tryz.prog.cellsOf 9=1:=by kernel_rfl
theorem Tryz.cells22:Tryz.prog.cellsOf 22=1:=by kernel_rfl
theorem list_of_fn (f:Nat→T) (n:Nat):∃ ws:List T,ws.length=n∧∀ i x,ws[i]?=some x→i<n∧x=f i:=by
 refine ⟨(List.range n).map f,by simp,fun i x hx=>?_⟩
 obtain ⟨hi,e⟩:=List.getElem?_eq_some_iff.1 hx
 simp at hi e
 exact ⟨hi,e.symm⟩
theorem open_kids {H:Type} {enc:TypeId × Value→H} {W:World}:∀ (z:Nat) {n:Nat} {v:Value} {x:DataW H × List MemPlace},SizeOf.sizeOf x.1<z→DataW.trod enc Tryz.prog W 0 (fun _=>true) true n 22 [v]=some x →
    ∃ (a:Option Addr) (c:Nat) (kk:List T),v=.slice a kk.length c∧kk.length≤maxLen∧Kids W 0 a kk:=by
 intro z
 induction z with
 | zero=>intro n v x h;omega
 | succ z ih =>
   intro n v x hz h
   rcases open_slice Tryz.underlying22 h with ⟨hcs,_⟩ | ⟨ad,len,cap,m',n2,D,Pl,hcs,_,hl,hm,hmm,hy,hall⟩
   ·simp at hcs
    subst hcs
    exact ⟨none,0,[],rfl,by simp,.inl rfl⟩
   ·simp at hcs
    subst hcs
    simp only [if_true] at hmm
    rw [Tryz.cells24] at hall
    have hD:∀ i,i<len→SizeOf.sizeOf (D i)<z:=fun i hi=>by
     have h5:D i∈(List.range len).map D:=List.mem_map.2 ⟨i,List.mem_range.2 hi,rfl⟩
     have h6:=List.sizeOf_lt_of_mem h5
     rw [hy] at hz
     simp at hz
     omega
    by_cases h0:len=0
    ·subst h0
     exact ⟨some ad,cap,[],rfl,by simp,.inl rfl⟩
    have one:∀ i,i<len→∃ (k:Int) (s:ByteArray) (mm:Int) (a:Option Addr) (c:Nat) (kk:List T),W.cells? 0 (ad.add (i * 4)) 4=some [.int .i64 k,.string s,.int .i64 mm,.slice a kk.length c]∧s.size≤maxLen∧kk.length≤maxLen∧Kids W 0 a kk:=by
     intro i hi
     obtain ⟨cs',q1,q2⟩:=hall i (by omega)
     obtain ⟨y0,y1,y2,y3,n',hx,hlen,h0,h1,h2,h3⟩:=trod_struct4 Tryz.underlying24 q2
     rw [Tryz.cells24] at hlen
     match cs',hlen with
     | [c0,c1,c2,c3],_ =>
       simp [Tryz.cells3,Tryz.cells9,Tryz.cells22] at h0 h1 h2 h3
       obtain ⟨x0,e0,_,_⟩:=DataW.trod_int Tryz.underlying3 h0
       obtain ⟨x1,e1,_,hs⟩:=DataW.trod_string Tryz.underlying9 h1
       obtain ⟨x2,e2,_,_⟩:=DataW.trod_int Tryz.underlying3 h2
       simp at e0 e1 e2
       subst e0 e1 e2
       have hsz:=hD i hi
       have hx':D i=_:=congrArg Prod.fst hx
       rw [hx'] at hsz
       simp at hsz
       obtain ⟨a,c,kk,rfl,hn,hk⟩:=ih (by omega) h3
       exact ⟨x0,x1,x2,a,c,kk,q1,hs,hn,hk⟩
    have hsp:ad.spot=none:=by
     obtain ⟨_,_,_,_,_,_,q1,_⟩:=one 0 (by omega)
     obtain ⟨_,_,hc⟩:=World.cells?_some q1
     have:=World.cell?_spot (hc 0 (by omega))
     simpa [Addr.add] using this
    obtain ⟨b,off,spot⟩:=ad
    simp only at hsp
    subst hsp
    have each:∀ i,i<len→∃ t:T,Lies W 0 t b (off+i * 4):=by
     intro i hi
     obtain ⟨k,s,mm,a,c,kk,q1,hs',hn',hk⟩:=one i hi
     obtain ⟨_,_,hc⟩:=World.cells?_some q1
     have g0:=hc 0 (by omega)
     have g1:=hc 1 (by omega)
     have g2:=hc 2 (by omega)
     have g3:=hc 3 (by omega)
     rw [add_plain,add_plain] at g0 g1 g2 g3
     refine ⟨.node k s mm kk,?_⟩
     unfold Lies
     exact ⟨g0,g1,g2,hs',hn',a,c,g3,hk⟩
    have inh:Inhabited T:=⟨.node 0 ⟨#[]⟩ 0 []⟩
    obtain ⟨f,hf'⟩:=choose_lt each
    obtain ⟨ws,hwl,hws⟩:=list_of_fn f len
    refine ⟨some ⟨b,off,none⟩,cap,ws,by rw [hwl],by omega,.inr ⟨b,off,rfl,Nat.zero_le _,LiesL.of fun i t ht=>?_⟩⟩
    obtain ⟨hi,rfl⟩:=hws i t ht
    exact hf' i hi
def Four (w:World) (b:Nat) (k:Int) (s:ByteArray) (m:Int) (a:Option Addr) (n c:Nat):Prop :=
 w.cell? ⟨b,0,none⟩=some (.int .i64 k)∧w.cell? ⟨b,1,none⟩=some (.string s)∧w.cell? ⟨b,2,none⟩=some (.int .i64 m)∧w.cell? ⟨b,3,none⟩=some (.slice a n c)
theorem Four.below {w w':World} {b:Nat} {k:Int} {s:ByteArray} {m:Int} {a:Option Addr} {n c:Nat} (h:Four w b k s m a n c) (hb:Below w.heap.size w w'):Four w' b k s m a n c:=by
 obtain ⟨h0,h1,h2,h3⟩:=h
 have hlt:=World.block_lt_of_cell? w _ h0
 have hc:∀ q,w'.cell? ⟨b,q,none⟩=w.cell? ⟨b,q,none⟩:=fun q=>hb.cell (p:=⟨b,q,none⟩) hlt
 exact ⟨(hc _).trans h0,(hc _).trans h1,(hc _).trans h2,(hc _).trans h3⟩
theorem Four.new (w:World) (k:Int) (s:ByteArray) (m:Int) (a:Option Addr) (n c t:Nat):Four (w.alloc (.cells #[.int .i64 k,.string s,.int .i64 m,.slice a n c] t)) w.heap.size k s m a n c :=
 ⟨by simp [go_sem],by simp [go_sem],by simp [go_sem],by simp [go_sem]⟩
end Go.Proofs.YtocbgbkdlfkjjaaGreatDoor
namespace Go.Proofs.YtocbgbkdlfkjjaaGreatDoor
open Go.RowKit
theorem deps_mem {ks:List T} {t:T} (h:t∈ks):dep t≤deps ks:=by
 induction ks with
 | nil=>cases h
 | cons x r ih =>
  simp only [deps]
  rcases List.mem_cons.1 h with rfl | h
  ·omega
  ·have:=ih h;omega
def At (w:World) (pb:Nat) (l:Nat):Prop:=w.cell? ⟨pb,0,none⟩=some (.int .i64 l)∧w.frozen? ⟨pb,0,none⟩=false
theorem At.alloc {w:World} {pb l:Nat} (h:At w pb l) (ob:Obj):At (w.alloc ob) pb l :=
 ⟨(((Below.refl w.heap.size w).alloc (Nat.le_refl _) ob).cell (p:=⟨pb,0,none⟩) (World.block_lt_of_cell? w _ h.1)).trans h.1,(((Below.refl w.heap.size w).alloc (Nat.le_refl _) ob).frozen (p:=⟨pb,0,none⟩) (World.block_lt_of_cell? w _ h.1)).trans h.2⟩
theorem At.set {w:World} {pb l:Nat} (h:At w pb l) {x:Int} (l':Nat) (hx:x=l'):At (w.setCell ⟨pb,0,none⟩ (.int .i64 x)) pb l':=by
 subst hx
 exact ⟨World.cell?_setCell_same' w _ _ (by rw [h.1];rfl),by simpa using h.2⟩
def StOk (t:T):Prop:=match t with
 | .node k s m kk=>∀ (w0 w:World) (a:Option Addr) (c:Nat) (deep l pb:Nat),kk.length≤maxLen→Kids w0 0 a kk→Below w0.heap.size w0 w→w0.heap.size≤pb→At w pb l→deep≤1000→l≤1000 →
  Calls Tryz.prog 110 #[.agg #[.int .i64 k,.string s,.int .i64 m,.slice a kk.length c],.int .i64 deep,.pointer (some ⟨pb,0,none⟩)] w fun e w' =>
   (∃ l',e=.returned (.bool (decide (dep t≤deep∧cnt t≤l)))∧At w' pb l'∧(dep t≤deep→cnt t≤l→l'+cnt t=l))∧Below w0.heap.size w0 w'
theorem dep_pos (t:T):1≤dep t:=by cases t;simp [dep]
theorem cnt_pos (t:T):1≤cnt t:=by cases t;simp [cnt]
theorem stays_ok (t:T):StOk t:=by
 refine T.induct ?_ t
 intro k s m kk IH w0 w a c deep l pb hn hk hb hpb hat hd hl
 unfold maxLen at hn
 have HI:=xaQ IH
 have HK:=xaQ hk
 have HB:=xaQ hb
 have hlt:pb<w.heap.size:=World.block_lt_of_cell? w _ hat.1
 have hsz:=hb.size
 have HP:=xaQ hpb
 obtain ⟨p0,f0⟩:=hat
 clear IH hk hb hpb
 have A0:=xaQ (HB.out.alloc hsz (.cells #[.int .i64 k,.string s,.int .i64 m,.slice a kk.length c] 31))
 have HW:=xaQ (show At w pb l from ⟨p0,f0⟩)
 have HA:=xaQ (HW.out.alloc (.cells #[.int .i64 k,.string s,.int .i64 m,.slice a kk.length c] 31))
 by_cases h0:deep=0
 ·subst h0
  go_enter Tryz.func110,Tryz.ntmps110
  go_wp2
  go_ret
  have h:=dep_pos (.node k s m kk)
  exact ⟨⟨l,by rw [decide_eq_false (by omega)];rfl,HA.out,fun h1=>by omega⟩,A0.out⟩
 ·have hd0:((deep:Int) == 0)=false:=by simp;omega
  by_cases h1:l=0
  ·subst h1
   go_enter Tryz.func110,Tryz.ntmps110
   go_wp2
   go_ret
   have h:=cnt_pos (.node k s m kk)
   exact ⟨⟨0,by rw [decide_eq_false (by omega)];rfl,HA.out,fun h1=>by omega⟩,A0.out⟩
  ·have hl0:((l:Int) == 0)=false:=by simp;omega
   have hwl:w0.heap.size≤w.heap.size:=hsz
   go_enter Tryz.func110,Tryz.ntmps110
   go_wp2
   go_loopw [25] (fun i w'=>∃ (j l':Nat),j≤kk.length∧i=.int .i64 j∧At w' pb l'∧deps (kk.take j)+1≤deep∧l'+cnts (kk.take j)+1=l∧Below w0.heap.size w0 w') (fun i _=>kk.length - (intOf i).toNat)
   case atStart =>
    exact ⟨0,l - 1,Nat.zero_le _,rfl,(HW.out.set (l - 1) (by omega)).alloc _,by simp [deps];omega,by simp [cnts];omega,(HB.out.setCell (p:=⟨pb,0,none⟩) HP.out _).alloc (by simp;omega) _⟩
   case round =>
    obtain ⟨j,l',hj,rfl,⟨r0,r1⟩,hdep,hcnt,hbel⟩:=hrel
    have HB1:=xaQ hbel
    have HR:=xaQ (And.intro hdep hcnt)
    have hl':l'≤1000:=by omega
    clear hbel hdep hcnt p0 f0 HA A0 HW
    by_cases hjl:j<kk.length
    ·obtain ⟨x,hx⟩:∃ x,kk[j]?=some x:=⟨_,List.getElem?_eq_getElem hjl⟩
     have HX:=xaQ hx
     rcases HK.out with rfl | ⟨b,o,rfl,_,hll⟩
     ·simp at hx
     obtain ⟨xk,xs,xm,xkk⟩:=x
     obtain ⟨xa,xc,hc0,hc1,hc2,hc3,hs,hkn,hkids⟩:=hll.at hx
     have hbl:=World.block_lt_of_cell? w0 _ hc0
     obtain ⟨g,_⟩:=ykQ (W:=w0) (w1:=wr) HB1.out
     have d0:=(g _ _ hbl).trans hc0
     have d1:=(g _ _ hbl).trans hc1
     have d2:=(g _ _ hbl).trans hc2
     have d3:=(g _ _ hbl).trans hc3
     have hsr:=HB1.out.size
     have HC:=xaQ (HI.out _ (List.mem_of_getElem? hx) w0 (wr.alloc (.cells #[.int .i64 xk,.string xs,.int .i64 xm,.slice xa xkk.length xc] 31)) xa xc (deep - 1) l' pb hkn hkids (HB1.out.alloc hsr _) HP.out
      (At.alloc ⟨r0,r1⟩ _) (by omega) hl')
     have hdd:((deep - 1:Nat):Int)=(deep:Int) - 1:=by omega
     rw [hdd] at HC
     clear hx hs hkn hkids hll hc0 hc1 hc2 hc3 g hdd
     go_wp2_with fail
     refine HC.out.mono ?_
     rintro e w1 ⟨⟨l1,rfl,⟨z0,z1⟩,hfin⟩,hb1⟩
     have HB2:=xaQ hb1
     have HF:=xaQ hfin
     have hdx:=deps_take HX.out
     have hcx:=cnts_take HX.out
     have HT:=xaQ (And.intro hdx hcx)
     clear hb1 hfin HC hdx hcx r0 r1
     by_cases hok:dep (.node xk xs xm xkk)≤deep - 1∧cnt (.node xk xs xm xkk)≤l'
     ·have hb:decide (dep (.node xk xs xm xkk)≤deep - 1∧cnt (.node xk xs xm xkk)≤l')=true:=decide_eq_true hok
      rw [hb]
      have HO:=xaQ hok
      clear hb hok
      go_wp2
      go_roundw
      case rel =>
       have h2:=HR.out
       have h3:=HT.out
       have h4:=HO.out
       have h5:=HF.out h4.1 h4.2
       exact ⟨j+1,l1,by omega,by go_num,⟨z0,z1⟩,by omega,by omega,HB2.out⟩
      case measure=>simp [intOf];omega
     ·have hb:decide (dep (.node xk xs xm xkk)≤deep - 1∧cnt (.node xk xs xm xkk)≤l')=false:=decide_eq_false hok
      rw [hb]
      have HO:=xaQ hok
      clear hb hok
      go_wp2
      go_ret
      have h2:=HR.out
      have h3:=HT.out
      have h4:=HO.out
      have h5:=deps_mem (List.mem_of_getElem? HX.out)
      have h6:=zuQ kk (j+1)
      have h7:¬ (dep (.node k s m kk)≤deep∧cnt (.node k s m kk)≤l):=by
       simp only [dep,cnt] at h4 h5 h6 h3 ⊢
       omega
      exact ⟨⟨l1,by rw [decide_eq_false h7];rfl,⟨z0,z1⟩,fun g1 g2=>absurd ⟨g1,g2⟩ h7⟩,HB2.out⟩
    ·go_wp2
     go_ret
     have h2:=HR.out
     rw [List.take_of_length_le (by omega)] at h2
     refine ⟨⟨l',by rw [decide_eq_true (by simp only [dep,cnt];omega)];rfl,⟨r0,r1⟩,fun _ _=>by simp only [cnt];omega⟩,HB1.out⟩
theorem isSmall_ok (k:Int) (s:ByteArray) (m:Int) (kk:List T) (a:Option Addr) (c:Nat) (w:World) (hn:kk.length≤maxLen) (hk:Kids w 0 a kk) :
    Calls Tryz.prog 84 #[.agg #[.int .i64 k,.string s,.int .i64 m,.slice a kk.length c]] w fun e w'=>e=.returned (.bool (decide (dep (.node k s m kk)≤24∧cnt (.node k s m kk)≤500)))∧Below w.heap.size w w':=by
 have HN:=xaQ hn
 have HK:=xaQ hk
 clear hn hk
 go_enter Tryz.func84,Tryz.ntmps84
 go_wp2_with fail
 refine (stays_ok (.node k s m kk) w _ a c 24 500 (w.heap.size+1) HN.out HK.out (((Below.refl _ _).alloc (Nat.le_refl _) _).alloc (by simp) _) (by omega) ⟨by simp [go_sem],by simp [go_sem]⟩ (by omega) (by omega)).mono ?_
 rintro e w1 ⟨⟨l1,rfl,_,_⟩,hb1⟩
 have HB:=xaQ hb1
 generalize hq:decide (dep (.node k s m kk)≤24∧cnt (.node k s m kk)≤500)=q
 have HQ:=xaQ hq
 clear hb1 hq
 go_wp2
 go_ret
 exact ⟨by rw [HQ.out];rfl,HB.out⟩
end Go.Proofs.YtocbgbkdlfkjjaaGreatDoor
