/- WHILE THE BODY OF A LOOP IS MADE, AND WHILE BOTH STATEMENTS ARE (the specification's l03Plain at a for). -/
import Derived.Test.YtocbgbkdlfkjjaaGreatDoorMDg
import Derived.Test.YtocbgbkdlfkjjaaGreatDoorMDe
set_option maxRecDepth 100000
namespace Go.Proofs.YtocbgbkdlfkjjaaGreatDoor
open Go.RowKit
open Pl
def pC (a:Act) (m e:Nat) (vs:List Value):Act:=⟨(a.tmps.toList.take m++vs++a.tmps.toList.drop e).toArray,a.defers⟩
theorem pCE:(∀ t ds m e vs,pC ⟨t,ds⟩ m e vs=⟨(t.toList.take m++vs++t.toList.drop e).toArray,ds⟩)∧(∀ l:List Value,l.toArray.toList=l)∧(∀ (a:Value) l n,(a :: l).take (n+1)=a :: l.take n)∧(∀ l:List Value,l.take 0=[])∧(∀ (a:Value) l n,(a :: l).drop (n+1)=l.drop n)∧(∀ l:List Value,l.drop 0=l)∧(∀ (a:Value) l k,(a :: l)++k=a :: (l++k))∧(∀ l:List Value,[]++l=l) :=
 ⟨fun _ _ _ _ _=>rfl,fun _=>rfl,fun _ _ _=>rfl,fun _=>rfl,fun _ _ _=>rfl,fun _=>rfl,fun _ _ _=>rfl,fun _=>rfl⟩
def appA (s:ByteArray) (NB bs g cq:Nat) (k:Int) (t:ByteArray) (m:Int) (kk:List A):A:=.node k t m (some ⟨g,0,none⟩) cq (kk++[setA s NB bs])
structure BodI (w1 v5 v:World) (B0 Z:Nat) (s:ByteArray) (zk:Int) (zs:ByteArray) (zm:Int) (za:Option Addr) (zc:Nat) (zkk:List A) (b1 b8 b9 b10 b11 b13:Bool) (NB bs bl g cq:Nat):Prop where
 bel:Below w1.heap.size w1 v
 ord:(b9=true→b8=true)∧(b10=true→b9=true)∧(b11=true→b10=true)∧(b11=true→b1=true)∧(b13=true→b11=true)
 pre:b11=false→Below v5.heap.size v5 v
 twoT:b8=true→b9=false→(nextA s NB).mine v v5.heap.size
 stT:b9=true→b11=false→(setA s NB bs).mine v v5.heap.size
 lit:b10=true→b11=false→v.heap[bl]?=some (.cells #[.int .i64 21,.string s,.int .i64 0,.slice (some ⟨bs,0,none⟩) 1 1] 31 (0,0))
 appT:b11=true→(appA s NB bs g cq zk zs zm zkk).mine v B0∧Z ∉ (appA s NB bs g cq zk zs zm zkk).blocks∧v.heap[Z]?=some (.cells #[.int .i64 zk,.string zs,.int .i64 zm,if b13=true then .slice (some ⟨g,0,none⟩) (zkk.length+1) cq else .slice za zkk.length zc] 31 (0,0))
section
variable {w1 v5 v v':World} {B0 Z:Nat} {s:ByteArray} {zk:Int} {zs:ByteArray} {zm:Int} {za:Option Addr} {zc:Nat} {zkk:List A} {b1 b8 b9 b10 b11 b13:Bool} {NB bs bl g cq:Nat}
theorem bof {p q:Bool} (h:p=true→q=true) (e:q=false):p=false:=by cases p with | false=>rfl | true=>exact tf ((h rfl).symm.trans e)
theorem BodI.start (h:Below v5.heap.size v5 v) (h1:Below w1.heap.size w1 v):BodI w1 v5 v B0 Z s zk zs zm za zc zkk false false false false false false NB bs bl g cq :=
 ⟨h1,⟨fun e=>ft e,fun e=>ft e,fun e=>ft e,fun e=>ft e,fun e=>ft e⟩,fun _=>h,fun e=>ft e,fun e=>ft e,fun e=>ft e,fun e=>ft e⟩
theorem BodI.below (h:BodI w1 v5 v B0 Z s zk zs zm za zc zkk b1 b8 b9 b10 b11 b13 NB bs bl g cq) (hb:Below v.heap.size v v'):BodI w1 v5 v' B0 Z s zk zs zm za zc zkk b1 b8 b9 b10 b11 b13 NB bs bl g cq :=
 ⟨xbQ h.bel hb,h.ord,fun e=>xbQ (h.pre e) hb,fun e e2=>(h.twoT e e2).below hb,fun e e2=>(h.stT e e2).below hb,fun e e2=>(hb.block bl (xiQ (h.lit e e2))).trans (h.lit e e2),
  fun e=>⟨(h.appT e).1.below hb,(h.appT e).2.1,(hb.block Z (xiQ (h.appT e).2.2)).trans (h.appT e).2.2⟩⟩
theorem BodI.zold (h:BodI w1 v5 v B0 Z s zk zs zm za zc zkk false b8 b9 b10 b11 b13 NB bs bl g cq) {o:Obj} (hZ:v5.heap[Z]?=some o):v.heap[Z]?=some o :=
 ((h.pre (bof h.ord.2.2.2.1 rfl)).block Z (xiQ hZ)).trans hZ
theorem BodI.seen (h:BodI w1 v5 v B0 Z s zk zs zm za zc zkk false b8 b9 b10 b11 b13 NB bs bl g cq):BodI w1 v5 v B0 Z s zk zs zm za zc zkk true b8 b9 b10 b11 b13 NB bs bl g cq :=
 ⟨h.bel,⟨h.ord.1,h.ord.2.1,h.ord.2.2.1,fun _=>rfl,h.ord.2.2.2.2⟩,h.pre,h.twoT,h.stT,h.lit,h.appT⟩
theorem BodI.two (h:BodI w1 v5 v B0 Z s zk zs zm za zc zkk b1 false b9 b10 b11 b13 NB bs bl g cq) (hs:s.size≤maxLen) {NB':Nat} (hb:Below v.heap.size v v') (hB:v'.heap[NB']?=some (.cells (xqQ [varA s,numA]).toArray 31 (0,0))) (hge:v.heap.size≤NB'):BodI w1 v5 v' B0 Z s zk zs zm za zc zkk b1 true b9 b10 b11 b13 NB' bs bl g cq:=by
 have e9:=bof h.ord.1 rfl
 have e10:=bof h.ord.2.1 e9
 have e11:=bof h.ord.2.2.1 e10
 subst e9 e10 e11
 have h':=h.below hb
 have hz:=(h.pre rfl).size
 refine ⟨h'.bel,⟨fun _=>rfl,h'.ord.2⟩,h'.pre,fun _ _=>?_,fun e=>ft e,fun e=>ft e,fun e=>ft e⟩
 exact yUQ (k:=6) (m:=0) (s:=⟨#[]⟩) (xs:=[varA s,numA]) ⟨(yVQ v 0 hs).tree.1,(yVQ v 0 (s:=⟨#[]⟩) (by decide)).tree.1,trivial⟩ hb hB hge (by unfold NewL;simp [feet,varA,numA,A.foot]) hz (by decide) (by simp [maxLen])
theorem BodI.set (h:BodI w1 v5 v B0 Z s zk zs zm za zc zkk b1 true false b10 b11 b13 NB bs bl g cq) (hs:s.size≤maxLen) {bs':Nat} (hb:Below v.heap.size v v') (hB:v'.heap[bs']?=some (.cells (xqQ [nextA s NB]).toArray 31 (0,0))) (hge:v.heap.size≤bs'):BodI w1 v5 v' B0 Z s zk zs zm za zc zkk b1 true true b10 b11 b13 NB bs' bl g cq:=by
 have e10:=bof h.ord.2.1 rfl
 have e11:=bof h.ord.2.2.1 e10
 subst e10 e11
 have h':=h.below hb
 have hz:=(h.pre rfl).size
 have ht:=(h.twoT rfl rfl).tree
 refine ⟨h'.bel,⟨fun _=>rfl,fun _=>rfl,h'.ord.2.2⟩,h'.pre,fun _ e=>tf e,fun _ _=>?_,fun e=>ft e,fun e=>ft e⟩
 exact yUQ (k:=21) (m:=0) (s:=s) (x1Q ht.1) hb hB hge (NewL.one ht.2.1) hz hs (by simp [maxLen])
theorem BodI.lay (h:BodI w1 v5 v B0 Z s zk zs zm za zc zkk b1 b8 true false b11 b13 NB bs bl g cq):BodI w1 v5 (v.alloc (.cells #[.int .i64 21,.string s,.int .i64 0,.slice (some ⟨bs,0,none⟩) 1 1] 31)) B0 Z s zk zs zm za zc zkk b1 b8 true true b11 b13 NB bs v.heap.size g cq:=by
 have e11:=bof h.ord.2.2.1 rfl
 subst e11
 have h':=h.below ((Below.refl _ _).alloc (Nat.le_refl _) (.cells #[.int .i64 21,.string s,.int .i64 0,.slice (some ⟨bs,0,none⟩) 1 1] 31))
 exact ⟨h'.bel,⟨h'.ord.1,fun _=>rfl,fun _=>rfl,h'.ord.2.2.2⟩,h'.pre,h'.twoT,h'.stT,fun _ _=>heap_alloc_new _ _,fun e=>ft e⟩
theorem BodI.ownd (h:BodI w1 v5 v B0 Z s zk zs zm za zc zkk b1 b8 b9 b10 false b13 NB bs bl g cq) (hy:(A.node zk zs zm za zc zkk).mine v5 B0):OwnA v B0 (.slice za zkk.length zc) zkk:=hy.1.below (h.pre rfl)
theorem BodI.app (h:BodI w1 v5 v B0 Z s zk zs zm za zc zkk true b8 b9 true false b13 NB bs bl g cq) (hy:(A.node zk zs zm za zc zkk).mine v5 B0) (hln:zkk.length≤4000) (hB5:B0≤v5.heap.size) (hZn:Z ∉ (A.node zk zs zm za zc zkk).blocks) (hw1:w1.heap.size≤B0) (hZ:v5.heap[Z]?=some (.cells #[.int .i64 zk,.string zs,.int .i64 zm,.slice za zkk.length zc] 31 (0,0)))
 {g' cq':Nat} (hown:v'.ownsRow B0 31 4 (.slice (some ⟨g',0,none⟩) (zkk.length+1) cq') (zkk.length+1) (xqQ zkk++[.int .i64 21,.string s,.int .i64 0,.slice (some ⟨bs,0,none⟩) 1 1])) (hgrow:v.grownBy v' (Value.slice za zkk.length zc).ownBlock) (hat:(Value.slice za zkk.length zc).ownBlock=some g'∨g'=v.heap.size) :
 BodI w1 v5 v' B0 Z s zk zs zm za zc zkk true b8 b9 true true b13 NB bs bl g' cq':=by
 have e13:b13=false:=bof h.ord.2.2.2.2 rfl
 have e9:=h.ord.2.1 rfl
 have e8:=h.ord.1 e9
 subst e13 e9 e8
 have hp:=h.pre rfl
 have hst:=(h.stT rfl rfl)
 have stt:=hst.tree
 have hoa:=h.ownd hy
 have hzl:=xiQ hZ
 have hol:=hy.1.own.lt
 have hZ2:v'.heap[Z]?=some (.cells #[.int .i64 zk,.string zs,.int .i64 zm,.slice za zkk.length zc] 31 (0,0)):=(hgrow.block Z (by have:=hp.size;omega) (fun e=>hZn (List.mem_append.2 (.inl (by rw [← e];simp))))).trans ((hp.block Z hzl).trans hZ)
 have hpu:=hy.1.pushS (xs:=[setA s NB bs]) hp (x1Q stt.1) (NewL.one stt.2.1) hB5 hown hgrow hat
 refine ⟨h.bel.grown hgrow h.bel.size (fun q e=>by have:=(hol q e).1;omega),⟨h.ord.1,h.ord.2.1,fun _=>rfl,fun _=>rfl,fun e=>ft e⟩,fun e=>tf e,fun _ e=>tf e,fun _ e=>tf e,fun _ e=>tf e,fun _=>⟨⟨hpu,hy.2.1,by rw [List.length_append];simp [maxLen];omega⟩,?_,by rw [if_neg (by decide)];exact hZ2⟩⟩
 intro hq
 rcases List.mem_append.1 hq with hq | hq
 ·simp [Value.ownBlock] at hq
  rcases hat with hat | hat
  ·exact hZn (List.mem_append.2 (.inl (by rw [hat,hq];simp)))
  ·have:=hp.size;omega
 ·rw [yeQ,List.mem_append,zAQ] at hq
  rcases hq with hq | hq
  ·exact hZn (List.mem_append.2 (.inr hq))
  ·have:=stt.2.1.2 Z hq;omega
theorem BodI.zapp (h:BodI w1 v5 v B0 Z s zk zs zm za zc zkk b1 b8 b9 b10 true false NB bs bl g cq) (_:true=true):v.heap[Z]?=some (.cells #[.int .i64 zk,.string zs,.int .i64 zm,.slice za zkk.length zc] 31 (0,0)):=by
 have:=(h.appT rfl).2.2
 rwa [if_neg (by decide)] at this
theorem BodI.put (h:BodI w1 v5 v B0 Z s zk zs zm za zc zkk b1 b8 b9 b10 true false NB bs bl g cq) (hZ1:w1.heap.size≤Z):BodI w1 v5 (v.setCell ⟨Z,3,none⟩ (.slice (some ⟨g,0,none⟩) (zkk.length+1) cq)) B0 Z s zk zs zm za zc zkk b1 b8 b9 b10 true true NB bs bl g cq:=by
 obtain ⟨a1,a2,_⟩:=h.appT rfl
 have hset:v.grownBy (v.setCell ⟨Z,3,none⟩ (.slice (some ⟨g,0,none⟩) (zkk.length+1) cq)) (some Z):=⟨rfl,rfl,rfl,by simp [World.setCell],fun q _ hq=>Below.heap_setCell _ _ _ _ (fun e=>hq (by rw [e]))⟩
 refine ⟨h.bel.setCell (p:=⟨Z,3,none⟩) hZ1 _,⟨h.ord.1,h.ord.2.1,h.ord.2.2.1,h.ord.2.2.2.1,fun _=>rfl⟩,fun e=>tf e,fun e e2=>?_,fun _ e=>tf e,fun _ e=>tf e,fun _=>⟨a1.kept hset a2,a2,?_⟩⟩
 ·rw [h.ord.2.1 (h.ord.2.2.1 rfl)] at e2
  exact tf e2
 ·rw [if_pos rfl,heap_setCell_same v Z 3 _ 31 _ (h.zapp rfl)];rfl
theorem BodI.done {TU:T} (h:BodI w1 v5 v B0 Z s zk zs zm za zc zkk b1 b8 b9 b10 true true NB bs bl g cq) (he:(A.node zk zs zm za zc zkk).erase=TU):∃ x:A,v.heap[Z]?=some (.cells x.cells.toArray 31 (0,0))∧x.erase=addK TU (nextT s)∧x.mine v B0∧Z ∉ x.blocks∧Below w1.heap.size w1 v:=by
 obtain ⟨a1,a2,a3⟩:=h.appT rfl
 rw [if_pos rfl] at a3
 refine ⟨_,?_,?_,a1,a2,h.bel⟩
 ·simp only [appA,A.cells,List.length_append,List.length_cons,List.length_nil]
  exact a3
 ·subst he
  simp only [appA,A.erase,addK,xvQ]
  rfl
end
structure ForI (wc v:World) (B0:Nat) (s:ByteArray) (x:A) (t1 t2:T) (b6 b7 b15 b16 b18 b19:Bool) (ya yb:A) (bs bc bw bl:Nat):Prop where
 bel:Below wc.heap.size wc v
 ord:(b7=true→b6=true)∧(b16=true→b15=true)∧(b18=true→b16=true)∧(b19=true→b7=true∧b18=true)
 era:(b6=true→ya.erase=t1)∧(b15=true→yb.erase=t2)
 trees:∃ xl xr:A,xl.mine v wc.heap.size∧(b18=false→xr.mine v wc.heap.size)∧xr.mine v B0∧(∀ q∈xl.blocks,q ∉ xr.blocks) ∧
  (b6=true→xl=if b7=true then .node 21 s 0 (some ⟨bs,0,none⟩) 1 [ya] else ya) ∧
  (b15=true→xr=if b18=true then .node 25 ⟨#[]⟩ 0 (some ⟨bw,0,none⟩) 2 [.node 11 ⟨#[]⟩ 0 (some ⟨bc,0,none⟩) 2 [varA s,yb],x] else if b16=true then .node 11 ⟨#[]⟩ 0 (some ⟨bc,0,none⟩) 2 [varA s,yb] else yb) ∧
  (b19=true→OwnA v B0 (.slice (some ⟨bl,0,none⟩) 2 2) [xl,xr])
theorem blocks_node (k m:Int) (s:ByteArray) (b c:Nat) (l:List A):(A.node k s m (some ⟨b,0,none⟩) c l).blocks=b :: feet l:=by simp [A.blocks,Value.ownBlock]
theorem feet_two (x y:A):feet [x,y]=x.foot++y.foot:=by simp [feet]
theorem leaf_blocks (s:ByteArray):(varA s).foot=[]∧(varA s).blocks=[]∧numA.blocks=[]:=by simp [varA,numA,A.foot,A.blocks,feet,Value.ownBlock]
theorem two_rows {w:World} {n:Nat} {p q:A} (hp:p.mine w n) (hq:q.mine w n) (hd:∀ r∈p.blocks,r ∉ q.blocks):SitsL w [p,q]∧NewL n [p,q]:=by
 have tp:=hp.tree
 have tq:=hq.tree
 refine ⟨⟨tp.1,tq.1,trivial⟩,?_⟩
 unfold NewL
 rw [feet_two]
 refine ⟨List.nodup_append.2 ⟨tp.2.1.1,tq.2.1.1,fun a ha b hb e=>hd a (hp.foot ha) (by rw [e];exact hq.foot hb)⟩,fun b hb=>?_⟩
 rcases List.mem_append.1 hb with hb | hb
 ·exact tp.2.1.2 b hb
 ·exact tq.2.1.2 b hb
section
variable {wc v v':World} {B0:Nat} {s:ByteArray} {x:A} {t1 t2:T} {b6 b7 b15 b16 b18 b19:Bool} {ya yb:A} {bs bc bw bl:Nat}
theorem ForI.start (hs:s.size≤maxLen):ForI wc wc.drew B0 s x t1 t2 false false false false false false ya yb bs bc bw bl:=by
 obtain ⟨_,h1,h2⟩:=leaf_blocks s
 exact ⟨(Below.refl _ _).drew,⟨fun e=>ft e,fun e=>ft e,fun e=>ft e,fun e=>ft e⟩,⟨fun e=>ft e,fun e=>ft e⟩,varA s,numA,yVQ _ _ hs,fun _=>yVQ _ _ (by decide),yVQ _ _ (by decide),fun q hq=>(by rw [h1] at hq;cases hq),fun e=>ft e,fun e=>ft e,fun e=>ft e⟩
theorem ForI.below (h:ForI wc v B0 s x t1 t2 b6 b7 b15 b16 b18 b19 ya yb bs bc bw bl) (hb:Below v.heap.size v v'):ForI wc v' B0 s x t1 t2 b6 b7 b15 b16 b18 b19 ya yb bs bc bw bl:=by
 obtain ⟨xl,xr,l1,l2,l3,l4,l5,l6,l7⟩:=h.trees
 exact ⟨xbQ h.bel hb,h.ord,h.era,xl,xr,l1.below hb,fun e=>(l2 e).below hb,l3.below hb,l4,l5,l6,fun e=>(l7 e).below hb⟩
theorem ForI.cpA (h:ForI wc v B0 s x t1 t2 false b7 b15 b16 b18 b19 ya yb bs bc bw bl) (hb:Below v.heap.size v v') {y:A} (hm:y.mine v' v.heap.size) (he:y.erase=t1):ForI wc v' B0 s x t1 t2 true b7 b15 b16 b18 b19 y yb bs bc bw bl:=by
 have e7:=bof h.ord.1 rfl
 subst e7
 obtain ⟨xl,xr,l1,l2,l3,l4,l5,l6,l7⟩:=h.trees
 refine ⟨xbQ h.bel hb,⟨fun e=>ft e,h.ord.2⟩,⟨fun _=>he,h.era.2⟩,y,xr,hm.mono h.bel.size,fun e=>(l2 e).below hb,l3.below hb,fun q hq hq2=>?_,fun _=>rfl,l6,fun e=>ft (h.ord.2.2.2 e).1⟩
 have:=(hm.lt hq).1
 have:=(l3.lt hq2).2
 omega
theorem ForI.set (h:ForI wc v B0 s x t1 t2 true false b15 b16 b18 b19 ya yb bs bc bw bl) (hs:s.size≤maxLen) {b:Nat} (hb:Below v.heap.size v v') (hB:v'.heap[b]?=some (.cells (xqQ [ya]).toArray 31 (0,0))) (hge:v.heap.size≤b):ForI wc v' B0 s x t1 t2 true true b15 b16 b18 b19 ya yb b bc bw bl:=by
 obtain ⟨xl,xr,l1,l2,l3,l4,l5,l6,l7⟩:=h.trees
 obtain rfl:xl=ya:=by rw [l5 rfl,if_neg (by decide)]
 have t:=l1.tree
 refine ⟨xbQ h.bel hb,⟨fun _=>rfl,h.ord.2.1,h.ord.2.2.1,fun e=>⟨rfl,(h.ord.2.2.2 e).2⟩⟩,h.era,_,xr,yUQ (k:=21) (m:=0) (s:=s) (x1Q t.1) hb hB hge (NewL.one t.2.1) h.bel.size hs (by simp [maxLen]),fun e=>(l2 e).below hb,l3.below hb,fun q hq hq2=>?_,fun _=>by rw [if_pos rfl];rfl,l6,fun e=>ft (h.ord.2.2.2 e).1⟩
 rw [blocks_node,zAQ] at hq
 rcases List.mem_cons.1 hq with rfl | hq
 ·have:=(l3.lt hq2).2;omega
 ·exact l4 q (l1.foot hq) hq2
theorem ForI.cpB (h:ForI wc v B0 s x t1 t2 b6 b7 false b16 b18 b19 ya yb bs bc bw bl) (hb:Below v.heap.size v v') {y:A} (hm:y.mine v' v.heap.size) (he:y.erase=t2) (hn0:B0≤wc.heap.size):ForI wc v' B0 s x t1 t2 b6 b7 true b16 b18 b19 ya y bs bc bw bl:=by
 have e16:=bof h.ord.2.1 rfl
 have e18:=bof h.ord.2.2.1 e16
 subst e16 e18
 have hz:=h.bel.size
 obtain ⟨xl,xr,l1,l2,l3,l4,l5,l6,l7⟩:=h.trees
 refine ⟨xbQ h.bel hb,⟨h.ord.1,fun e=>ft e,fun e=>ft e,h.ord.2.2.2⟩,⟨h.era.1,fun _=>he⟩,xl,y,l1.below hb,fun _=>hm.mono hz,hm.mono (by omega),fun q hq hq2=>?_,l5,fun _=>by rw [if_neg (by decide),if_neg (by decide)],fun e=>ft (h.ord.2.2.2 e).2⟩
 have:=(hm.lt hq2).1
 have:=(l1.lt hq).2
 omega
theorem ForI.cnd (h:ForI wc v B0 s x t1 t2 b6 b7 true false b18 b19 ya yb bs bc bw bl) (hs:s.size≤maxLen) (hn0:B0≤wc.heap.size) {b:Nat} (hb:Below v.heap.size v v') (hB:v'.heap[b]?=some (.cells (xqQ [varA s,yb]).toArray 31 (0,0))) (hge:v.heap.size≤b):ForI wc v' B0 s x t1 t2 b6 b7 true true b18 b19 ya yb bs b bw bl:=by
 have e18:=bof h.ord.2.2.1 rfl
 subst e18
 have hz:=h.bel.size
 obtain ⟨xl,xr,l1,l2,l3,l4,l5,l6,l7⟩:=h.trees
 obtain rfl:xr=yb:=by rw [l6 rfl,if_neg (by decide),if_neg (by decide)]
 have h2:=l2 rfl
 have hr:=two_rows (yVQ (k:=2) (m:=0) v wc.heap.size hs) h2 (fun r hr=>by have:=(leaf_blocks s).2.1;unfold varA at this;rw [this] at hr;cases hr)
 have hm:=yUQ (k:=11) (m:=0) (s:=⟨#[]⟩) (xs:=[varA s,xr]) hr.1 hb hB hge hr.2 hz (by decide) (by simp [maxLen])
 refine ⟨xbQ h.bel hb,⟨h.ord.1,fun _=>rfl,fun e=>ft e,h.ord.2.2.2⟩,h.era,xl,_,l1.below hb,fun _=>hm,hm.mono hn0,fun q hq hq2=>?_,l5,fun _=>by rw [if_neg (by decide),if_pos rfl];rfl,fun e=>ft (h.ord.2.2.2 e).2⟩
 rw [blocks_node,feet_two,(leaf_blocks s).1,List.nil_append] at hq2
 rcases List.mem_cons.1 hq2 with rfl | hq2
 ·have:=(l1.lt hq).2;omega
 ·exact l4 q hq (h2.foot hq2)
theorem ForI.whl (h:ForI wc v B0 s x t1 t2 b6 b7 b15 true false b19 ya yb bs bc bw bl) (hx:x.mine wc B0) (hn0:B0≤wc.heap.size) {b:Nat} (hb:Below v.heap.size v v') (hB:v'.heap[b]?=some (.cells (xqQ [.node 11 ⟨#[]⟩ 0 (some ⟨bc,0,none⟩) 2 [varA s,yb],x]).toArray 31 (0,0))) (hge:v.heap.size≤b):ForI wc v' B0 s x t1 t2 b6 b7 b15 true true b19 ya yb bs bc b bl:=by
 have e15:=h.ord.2.1 rfl
 subst e15
 have hz:=h.bel.size
 obtain ⟨xl,xr,l1,l2,l3,l4,l5,l6,l7⟩:=h.trees
 have exr:=l6 rfl
 rw [if_neg (by decide),if_pos rfl] at exr
 have h2:=l2 rfl
 have hxv:=hx.below h.bel
 have hlx:∀ q∈x.blocks,q<wc.heap.size:=fun q hq=>(hx.lt hq).2
 have hr:=two_rows (h2.mono hn0) hxv (fun r hr hr2=>by have:=(h2.lt hr).1;have:=hlx r hr2;omega)
 rw [← exr] at hB
 have hm:=yUQ (k:=25) (m:=0) (s:=⟨#[]⟩) (xs:=[xr,x]) hr.1 hb hB hge hr.2 (by omega) (by decide) (by simp [maxLen])
 refine ⟨xbQ h.bel hb,⟨h.ord.1,fun _=>rfl,fun _=>rfl,fun e=>ft (h.ord.2.2.2 e).2⟩,h.era,xl,_,l1.below hb,fun e=>tf e,hm,fun q hq hq2=>?_,l5,fun _=>by rw [if_pos rfl,exr];rfl,fun e=>ft (h.ord.2.2.2 e).2⟩
 rw [blocks_node,feet_two] at hq2
 rcases List.mem_cons.1 hq2 with rfl | hq2
 ·have:=(l1.lt hq).2;omega
 ·rcases List.mem_append.1 hq2 with hq2 | hq2
  ·exact l4 q hq (h2.foot hq2)
  ·have:=(l1.lt hq).1;have:=hlx q (hx.foot hq2);omega
theorem ForI.lay (h:ForI wc v B0 s x t1 t2 b6 true b15 b16 true false ya yb bs bc bw bl) (hn0:B0≤wc.heap.size):ForI wc (v.alloc (.cells #[.int .i64 21,.string s,.int .i64 0,.slice (some ⟨bs,0,none⟩) 1 1,.int .i64 25,.string ⟨#[]⟩,.int .i64 0,.slice (some ⟨bw,0,none⟩) 2 2] 31)) B0 s x t1 t2 b6 true b15 b16 true true ya yb bs bc bw v.heap.size:=by
 have hb:Below v.heap.size v (v.alloc (.cells #[.int .i64 21,.string s,.int .i64 0,.slice (some ⟨bs,0,none⟩) 1 1,.int .i64 25,.string ⟨#[]⟩,.int .i64 0,.slice (some ⟨bw,0,none⟩) 2 2] 31)):=(Below.refl _ _).alloc (Nat.le_refl _) _
 have hz:=h.bel.size
 obtain ⟨xl,xr,l1,l2,l3,l4,l5,l6,l7⟩:=h.trees
 have e6:=h.ord.1 rfl
 have e15:=h.ord.2.1 (h.ord.2.2.1 rfl)
 have exl:=l5 e6
 have exr:=l6 e15
 rw [if_pos rfl] at exl exr
 have hr:=two_rows (l1.mono hn0) l3 l4
 refine ⟨xbQ h.bel hb,⟨h.ord.1,h.ord.2.1,h.ord.2.2.1,fun _=>⟨rfl,rfl⟩⟩,h.era,xl,xr,l1.below hb,fun e=>(l2 e).below hb,l3.below hb,l4,l5,l6,fun _=>?_⟩
 exact mkOne (xs:=[xl,xr]) hr.1 hb (by rw [exl,exr];exact heap_alloc_new _ _) (Nat.le_refl _) hr.2 (by omega) (by simp [maxLen])
end
set_option maxHeartbeats 6400000 in
theorem sFor_any (s:ByteArray) (m:Int) (u1 u2 u3:T) (hf:xeQ (.node 26 s m [u1,u2,u3])=true) (hc:cnt (.node 26 s m [u1,u2,u3])≤500) (h3:PlainS u3) (hk3:xdQ u3=30) (a:Option Addr) (cc:Nat) (w:World) (hk:Kids w 0 a [u1,u2,u3]) :
 Calls Tryz.prog 68 #[.agg #[.int .i64 26,.string s,.int .i64 m,.slice a 3 cc]] w (RPost [setT s u1,loopT s u2 (plnT u3)] w):=by
 obtain ⟨k1,s1,m1,kk1⟩:=u1
 obtain ⟨k2,s2,m2,kk2⟩:=u2
 obtain ⟨k3,s3,m3,kk3⟩:=u3
 obtain rfl:k3=30:=hk3
 have hf3:xeQ (.node 30 s3 m3 kk3)=true:=zaQ hf (by simp)
 have hs:=yLQ (xnQ hf).1
 have B1:Below w.heap.size w (w.alloc (.cells #[.int .i64 26,.string s,.int .i64 m,.slice a 3 cc] 31)):=(Below.refl w.heap.size w).alloc (Nat.le_refl _) _
 have F1:=Four.new w 26 s m a 3 cc 31
 obtain ⟨P,hP⟩:∃ q,w.heap.size=q:=⟨_,rfl⟩
 obtain ⟨w1,hw1⟩:∃ q,w.alloc (.cells #[.int .i64 26,.string s,.int .i64 m,.slice a 3 cc] 31)=q:=⟨_,rfl⟩
 rw [hw1] at F1 B1
 rw [hP] at F1
 have HFP:Hid (∀ W,Below w1.heap.size w1 W→Four W P 26 s m a 3 cc):=xaQ (fun W hW=>F1.below hW)
 obtain ⟨p0,p1,p2,p3⟩:=F1
 have h0:=heap_alloc_new w1 (.cells #[.int .i64 26,.string s,.int .i64 m,.slice none 0 0] 31)
 have B2:Below w1.heap.size w1 (w1.alloc (.cells #[.int .i64 26,.string s,.int .i64 m,.slice none 0 0] 31)):=(Below.refl _ _).alloc (Nat.le_refl _) _
 obtain ⟨q0,q1,q2,q3⟩:=HFP.out _ B2
 obtain ⟨X,hX⟩:∃ q,w1.heap.size=q:=⟨_,rfl⟩
 obtain ⟨w2,hw2⟩:∃ q,w1.alloc (.cells #[.int .i64 26,.string s,.int .i64 m,.slice none 0 0] 31)=q:=⟨_,rfl⟩
 rw [hw2] at h0 B2
 rw [hX] at h0
 have HBX:=xaQ B2
 have HX0:=xaQ h0
 have HK:=xaQ (hk.below B1)
 have HB:=xaQ B1
 have HXE:=xaQ hX
 obtain ⟨i0,hi0,hz0⟩:=Option.map_eq_some_iff.1 Tryz.info31
 simp only [Prod.mk.injEq] at hz0
 obtain ⟨hz1,hz2,hz3⟩:=hz0
 have HI:=xaQ (show Tryz.prog.info? 31=some i0∧i0.zero=some (.agg #[.int .i64 0,.string ByteArray.empty,.int .i64 0,.slice none 0 0])∧i0.size=4∧i0.bytes=56 from ⟨hi0,hz1,hz2,hz3⟩)
 clear hi0 hz1 hz2 hz3
 obtain ⟨b,o,xa1,xc1,rfl,hkd1⟩:=kid_at hk B1 (i:=0) rfl
 obtain ⟨b',o',xa2,xc2,hbo,hkd2⟩:=kid_at hk B1 (i:=1) rfl
 cases hbo
 obtain ⟨b',o',xa3,xc3,hbo,hkd3⟩:=kid_at hk B1 (i:=2) rfl
 cases hbo
 simp only [cnt,cnts] at hc
 obtain ⟨_,_,_,_,hbo,_,_,_,_,hz1,_⟩:=yqQ hk (Below.refl _ _) (i:=0) rfl
 cases hbo
 obtain ⟨_,_,_,_,hbo,_,_,_,_,hz2,_⟩:=yqQ hk (Below.refl _ _) (i:=1) rfl
 cases hbo
 have HK0:=xaQ hkd1
 have HK1:=xaQ hkd2
 have HK2:=xaQ hkd3
 obtain ⟨TA,hTA⟩:∃ q,T.node k1 s1 m1 kk1=q:=⟨_,rfl⟩
 obtain ⟨TB,hTB⟩:∃ q,T.node k2 s2 m2 kk2=q:=⟨_,rfl⟩
 have hc1:Hid (∀ W,Below w1.heap.size w1 W→Calls Tryz.prog 67 #[.agg #[.int .i64 k1,.string s1,.int .i64 m1,.slice xa1 kk1.length xc1]] W (TPost TA W)):=xaQ (fun W hW=>by rw [← hTA];exact sCopy_any (.node k1 s1 m1 kk1) hz1 (by omega) xa1 xc1 W (hkd1 W hW).2.2.2.2)
 have hc2:Hid (∀ W,Below w1.heap.size w1 W→Calls Tryz.prog 67 #[.agg #[.int .i64 k2,.string s2,.int .i64 m2,.slice xa2 kk2.length xc2]] W (TPost TB W)):=xaQ (fun W hW=>by rw [← hTB];exact sCopy_any (.node k2 s2 m2 kk2) hz2 (by omega) xa2 xc2 W (hkd2 W hW).2.2.2.2)
 have HC1:=hc1
 have HC2:=hc2
 have hpk:=yEQ (t:=.node 30 s3 m3 kk3) (by show (30:Int)≠26;decide)
 have HLN:Hid (∀ k s m a c kk,(A.node k s m a c kk).erase=plnT (.node 30 s3 m3 kk3)→kk.length≤4000):=xaQ (fun k s m a c kk e=>by
  have h1:=(pln_cnt (.node 30 s3 m3 kk3)).1
  rw [← e] at h1
  simp only [A.erase,cnt] at h1
  have h2:=ywQ (xmQ kk)
  rw [xzQ] at h2
  omega)
 obtain ⟨TU,hTU⟩:∃ q,plnT (.node 30 s3 m3 kk3)=q:=⟨_,rfl⟩
 have HCM:=xaQ (fun W hW=>h3 (by decide) (by decide) hf3 (by simp only [cnt];omega) xa3 xc3 W (hkd3 W hW).2.2.2.2)
 rw [hpk] at HCM
 rw [hTU] at HCM HLN
 rw [hTA,hTB,hTU]
 have hs9:s.size≤maxLen:=by unfold maxLen;omega
 have HB2:=xaQ B2
 obtain ⟨B0,hB0⟩:∃ q,w2.heap.size=q:=⟨_,rfl⟩
 have hw1B:w1.heap.size≤B0:=by rw [← hB0];exact B2.size
 have HB0:=xaQ hB0
 have HW2:=xaQ hw2
 clear hkd1 hkd2 hkd3 hc1 hc2 hpk h3 hf hf3 hc hk B1 h0 hz1 hz2 hTA hTB hTU hB0 hw2
 go_enter Tryz.func68,Tryz.ntmps68
 have HPX:=xaQ (show P+1=X by rw [← hX,← hw1,← hP];simp)
 go_upto_region 10 with fail
 first | rw [hw1] | skip
 first | rw [hP] | skip
 first | rw [HPX.out] | skip
 first | rw [HW2.out] | skip
 obtain ⟨y0,y1,y2,y3⟩:=HFP.out _ B2
 obtain ⟨c0,c1,c2,c3,_⟩:=HK2.out _ B2
 simp only [show 2 * 4=8 from rfl] at c0 c1 c2 c3
 clear hw1 hP HW2 hX p0 p1 p2 p3 q0 q1 q2 q3
 go_upto_region 11 with (go_at_call 68;refine (HCM.out _ B2).mono ?_;rintro e w4 ⟨ys,ya,yc,rfl,hye,hyo,hym,hb4⟩;obtain ⟨x1,rfl,hke⟩:=one_of hye;have hkm:=hym _ rfl;obtain ⟨zk,zs,zm,za,zc,zkk⟩:=x1;simp only [List.length_cons,List.length_nil,Nat.zero_add] at hyo ⊢;obtain ⟨gy,rfl,hrow⟩:=OwnA.one hyo;obtain ⟨r0,r1,r2,r3⟩:=hrow _ (Below.refl _ _))
 have hln:=HLN.out _ _ _ _ _ _ hke
 have A5:Below w4.heap.size w4 (w4.alloc (.cells #[.int .i64 zk,.string zs,.int .i64 zm,.slice za zkk.length zc] 31)):=(Below.refl _ _).alloc (Nat.le_refl _) _
 have hZ5:=heap_alloc_new w4 (.cells #[.int .i64 zk,.string zs,.int .i64 zm,.slice za zkk.length zc] 31)
 obtain ⟨Z,hZ⟩:∃ q,w4.heap.size=q:=⟨_,rfl⟩
 obtain ⟨v5,hv5⟩:∃ q,w4.alloc (.cells #[.int .i64 zk,.string zs,.int .i64 zm,.slice za zkk.length zc] 31)=q:=⟨_,rfl⟩
 have hZb:Z ∉ (A.node zk zs zm za zc zkk).blocks:=fun hq=>by have:=(hkm.lt hq).2;omega
 rw [hv5] at A5 hZ5
 rw [hZ] at hZ5
 rw [hv5,hZ]
 have hk5:=hkm.below A5
 rw [HB0.out] at hk5
 have HYM:=xaQ hk5
 have HYE:=xaQ hke
 have HZ5:=xaQ hZ5
 have HZB:=xaQ hZb
 have B5:=xbQ hb4 A5
 have hB5:B0≤v5.heap.size:=by rw [← HB0.out];exact B5.size
 have HB5:=xaQ ((Below.refl v5.heap.size v5).drew)
 have HBV:=xaQ (xbQ B2 B5).drew
 have hBZ:B0≤Z:=by have:=hb4.size;have:=HB0.out;omega
 have hz1Z:w1.heap.size≤Z:=Nat.le_trans hw1B hBZ
 clear hkm hk5 hke hZ5 hZb A5 B5 hb4 hv5 hZ hye hyo hym hrow r0 r1 r2 r3 y0 y1 y2 y3 c0 c1 c2 c3 HLN HCM B2
 go_cut [] from 46 to 58 (fun v=>∃ x:A,v.heap[Z]?=some (.cells x.cells.toArray 31 (0,0))∧x.erase=addK TU (nextT s)∧x.mine v B0∧Z ∉ x.blocks∧Below w1.heap.size w1 v)
 case first =>
  refine yRQ (fun zA0 L zA v=>∃ (zB:Nat→Bool) (zS:Nat→Value) (NB:Nat) (bs:Nat) (bl:Nat) (g:Nat) (cq:Nat),L=#[zB 0,zB 1,zB 2,zB 3,zB 4,zB 5,zB 6,zB 7,zB 8,zB 9,zB 10,zB 11,zB 12,zB 13]∧zA=pC zA0 46 59 [zS 46,zS 47,zS 48,zS 49,zS 50,zS 51,zS 52,zS 53,zS 54,zS 55,zS 56,zS 57,zS 58]∧((zB 0=true→zS 46=.pointer (some ⟨Z,3,none⟩))∧(zB 1=true→zS 47=.slice za zkk.length zc)∧(zB 2=true→zS 48=.pointer (some ⟨P,1,none⟩))∧(zB 3=true→zS 49=.string s)∧(zB 4=true→zS 50=.pointer (some ⟨P,1,none⟩))∧(zB 5=true→zS 51=.string s)∧(zB 6=true→zS 52=.agg #[.int .i64 2,.string s,.int .i64 0,.slice none 0 0])∧(zB 7=true→zS 53=.agg #[.int .i64 1,.string ⟨#[]⟩,.int .i64 1,.slice none 0 0])∧(zB 8=true→zS 54=.agg #[.int .i64 6,.string ⟨#[]⟩,.int .i64 0,.slice (some ⟨NB,0,none⟩) 2 2])∧(zB 9=true→zS 55=.agg #[.int .i64 21,.string s,.int .i64 0,.slice (some ⟨bs,0,none⟩) 1 1])∧(zB 10=true→zS 56=.slice (some ⟨bl,0,none⟩) 1 1)∧(zB 11=true→zS 57=.slice (some ⟨g,0,none⟩) (zkk.length+1) cq)∧(zB 12=true→zS 58=.pointer (some ⟨Z,3,none⟩)))∧BodI w1 v5 v B0 Z s zk zs zm za zc zkk (zB 1) (zB 8) (zB 9) (zB 10) (zB 11) (zB 13) NB bs bl g cq) (by kernel_rfl) ?_ ?_ ?_
  ·exact ⟨fun _=>false,fun _=>undef,0,0,0,0,0,rfl,by kernel_rfl,⟨fun e=>ft e,fun e=>ft e,fun e=>ft e,fun e=>ft e,fun e=>ft e,fun e=>ft e,fun e=>ft e,fun e=>ft e,fun e=>ft e,fun e=>ft e,fun e=>ft e,fun e=>ft e,fun e=>ft e⟩,BodI.start HB5.out HBV.out⟩
  ·refine StepsI.cons rfl ?_ ?_
   ·rintro L zA v ⟨zB,zS,NB,bs,bl,g,cq,rfl,rfl,⟨j0,j1,j2,j3,j4,j5,j6,j7,j8,j9,j10,j11,j12⟩,hW⟩ hL hm K hK
    have hb0:zB 0=false:=by simpa using hL
    clear hL hm
    simp only [pCE]
    go_simp
    exact hK.out _ _ ⟨fun zj=>if zj=0 then true else zB zj,fun zd=>if zd=46 then .pointer (some ⟨Z,3,none⟩) else zS zd,NB,bs,bl,g,cq,rfl,by kernel_rfl,⟨fun _=>rfl,j1,j2,j3,j4,j5,j6,j7,j8,j9,j10,j11,j12⟩,hW⟩
   refine StepsI.cons rfl ?_ ?_
   ·rintro L zA v ⟨zB,zS,NB,bs,bl,g,cq,rfl,rfl,⟨j0,j1,j2,j3,j4,j5,j6,j7,j8,j9,j10,j11,j12⟩,hW⟩ hL hm K hK
    have hb1:zB 1=false:=by simpa using hL
    have hb0:zB 0=true:=by simpa using dp hm 0 (by kernel_rfl)
    have e0:zS 46=.pointer (some ⟨Z,3,none⟩):=j0 hb0
    clear hL hm
    rw [hb1] at hW
    simp only [pCE]
    simp only [e0]
    obtain ⟨y0,y1,y2,y3,_⟩:=xcQ (hW.zold HZ5.out)
    go_simp
    exact hK.out _ _ ⟨fun zj=>if zj=0 then true else if zj=1 then true else zB zj,fun zd=>if zd=47 then .slice za zkk.length zc else if zd=46 then .pointer (some ⟨Z,3,none⟩) else zS zd,NB,bs,bl,g,cq,by simp [hb0],by kernel_rfl,⟨fun _=>rfl,fun _=>rfl,j2,j3,j4,j5,j6,j7,j8,j9,j10,j11,j12⟩,hW.seen⟩
   refine StepsI.cons rfl ?_ ?_
   ·rintro L zA v ⟨zB,zS,NB,bs,bl,g,cq,rfl,rfl,⟨j0,j1,j2,j3,j4,j5,j6,j7,j8,j9,j10,j11,j12⟩,hW⟩ hL hm K hK
    have hb2:zB 2=false:=by simpa using hL
    clear hL hm
    simp only [pCE]
    go_simp
    exact hK.out _ _ ⟨fun zj=>if zj=2 then true else zB zj,fun zd=>if zd=48 then .pointer (some ⟨P,1,none⟩) else zS zd,NB,bs,bl,g,cq,rfl,by kernel_rfl,⟨j0,j1,fun _=>rfl,j3,j4,j5,j6,j7,j8,j9,j10,j11,j12⟩,hW⟩
   refine StepsI.cons rfl ?_ ?_
   ·rintro L zA v ⟨zB,zS,NB,bs,bl,g,cq,rfl,rfl,⟨j0,j1,j2,j3,j4,j5,j6,j7,j8,j9,j10,j11,j12⟩,hW⟩ hL hm K hK
    have hb3:zB 3=false:=by simpa using hL
    have hb2:zB 2=true:=by simpa using dp hm 2 (by kernel_rfl)
    have e2:zS 48=.pointer (some ⟨P,1,none⟩):=j2 hb2
    clear hL hm
    simp only [pCE]
    simp only [e2]
    obtain ⟨y0,y1,y2,y3⟩:=HFP.out _ hW.bel
    go_simp
    exact hK.out _ _ ⟨fun zj=>if zj=2 then true else if zj=3 then true else zB zj,fun zd=>if zd=49 then .string s else if zd=48 then .pointer (some ⟨P,1,none⟩) else zS zd,NB,bs,bl,g,cq,by simp [hb2],by kernel_rfl,⟨j0,j1,fun _=>rfl,fun _=>rfl,j4,j5,j6,j7,j8,j9,j10,j11,j12⟩,hW⟩
   refine StepsI.cons rfl ?_ ?_
   ·rintro L zA v ⟨zB,zS,NB,bs,bl,g,cq,rfl,rfl,⟨j0,j1,j2,j3,j4,j5,j6,j7,j8,j9,j10,j11,j12⟩,hW⟩ hL hm K hK
    have hb4:zB 4=false:=by simpa using hL
    clear hL hm
    simp only [pCE]
    go_simp
    exact hK.out _ _ ⟨fun zj=>if zj=4 then true else zB zj,fun zd=>if zd=50 then .pointer (some ⟨P,1,none⟩) else zS zd,NB,bs,bl,g,cq,rfl,by kernel_rfl,⟨j0,j1,j2,j3,fun _=>rfl,j5,j6,j7,j8,j9,j10,j11,j12⟩,hW⟩
   refine StepsI.cons rfl ?_ ?_
   ·rintro L zA v ⟨zB,zS,NB,bs,bl,g,cq,rfl,rfl,⟨j0,j1,j2,j3,j4,j5,j6,j7,j8,j9,j10,j11,j12⟩,hW⟩ hL hm K hK
    have hb5:zB 5=false:=by simpa using hL
    have hb4:zB 4=true:=by simpa using dp hm 4 (by kernel_rfl)
    have e4:zS 50=.pointer (some ⟨P,1,none⟩):=j4 hb4
    clear hL hm
    simp only [pCE]
    simp only [e4]
    obtain ⟨y0,y1,y2,y3⟩:=HFP.out _ hW.bel
    go_simp
    exact hK.out _ _ ⟨fun zj=>if zj=4 then true else if zj=5 then true else zB zj,fun zd=>if zd=51 then .string s else if zd=50 then .pointer (some ⟨P,1,none⟩) else zS zd,NB,bs,bl,g,cq,by simp [hb4],by kernel_rfl,⟨j0,j1,j2,j3,fun _=>rfl,fun _=>rfl,j6,j7,j8,j9,j10,j11,j12⟩,hW⟩
   refine StepsI.cons rfl ?_ ?_
   ·rintro L zA v ⟨zB,zS,NB,bs,bl,g,cq,rfl,rfl,⟨j0,j1,j2,j3,j4,j5,j6,j7,j8,j9,j10,j11,j12⟩,hW⟩ hL hm K hK
    have hb6:zB 6=false:=by simpa using hL
    have hb5:zB 5=true:=by simpa using dp hm 5 (by kernel_rfl)
    have e5:zS 51=.string s:=j5 hb5
    clear hL hm
    simp only [pCE]
    simp only [e5]
    go_simp
    go_at_call 97
    refine (sVar_any s _).mono ?_
    rintro e w8 ⟨rfl,hbq⟩
    simp only [A.val]
    exact hK.out _ _ ⟨fun zj=>if zj=5 then true else if zj=6 then true else zB zj,fun zd=>if zd=52 then .agg #[.int .i64 2,.string s,.int .i64 0,.slice none 0 0] else if zd=51 then .string s else zS zd,NB,bs,bl,g,cq,by simp [hb5],by kernel_rfl,⟨j0,j1,j2,j3,j4,fun _=>rfl,fun _=>rfl,j7,j8,j9,j10,j11,j12⟩,hW.below hbq⟩
   refine StepsI.cons rfl ?_ ?_
   ·rintro L zA v ⟨zB,zS,NB,bs,bl,g,cq,rfl,rfl,⟨j0,j1,j2,j3,j4,j5,j6,j7,j8,j9,j10,j11,j12⟩,hW⟩ hL hm K hK
    have hb7:zB 7=false:=by simpa using hL
    clear hL hm
    simp only [pCE]
    go_simp
    go_at_call 98
    refine (sNum1_any _).mono ?_
    rintro e w8 ⟨rfl,hbq⟩
    simp only [A.val]
    exact hK.out _ _ ⟨fun zj=>if zj=7 then true else zB zj,fun zd=>if zd=53 then .agg #[.int .i64 1,.string ⟨#[]⟩,.int .i64 1,.slice none 0 0] else zS zd,NB,bs,bl,g,cq,rfl,by kernel_rfl,⟨j0,j1,j2,j3,j4,j5,j6,fun _=>rfl,j8,j9,j10,j11,j12⟩,hW.below hbq⟩
   refine StepsI.cons rfl ?_ ?_
   ·rintro L zA v ⟨zB,zS,NB,bs,bl,g,cq,rfl,rfl,⟨j0,j1,j2,j3,j4,j5,j6,j7,j8,j9,j10,j11,j12⟩,hW⟩ hL hm K hK
    have hb8:zB 8=false:=by simpa using hL
    have hb6:zB 6=true:=by simpa using dp hm 6 (by kernel_rfl)
    have hb7:zB 7=true:=by simpa using dp hm 7 (by kernel_rfl)
    have e6:zS 52=.agg #[.int .i64 2,.string s,.int .i64 0,.slice none 0 0]:=j6 hb6
    have e7:zS 53=.agg #[.int .i64 1,.string ⟨#[]⟩,.int .i64 1,.slice none 0 0]:=j7 hb7
    clear hL hm
    rw [hb8] at hW
    simp only [pCE]
    simp only [e6,e7]
    go_simp
    go_at_call 96
    refine (two_new 6 (varA s) numA _).mono ?_
    rintro e w8 ⟨bq,rfl,hBq,hge,hbq⟩
    simp only [A.val]
    exact hK.out _ _ ⟨fun zj=>if zj=7 then true else if zj=6 then true else if zj=8 then true else zB zj,fun zd=>if zd=54 then .agg #[.int .i64 6,.string ⟨#[]⟩,.int .i64 0,.slice (some ⟨bq,0,none⟩) 2 2] else if zd=53 then .agg #[.int .i64 1,.string ⟨#[]⟩,.int .i64 1,.slice none 0 0] else if zd=52 then .agg #[.int .i64 2,.string s,.int .i64 0,.slice none 0 0] else zS zd,bq,bs,bl,g,cq,by simp [hb6,hb7],by kernel_rfl,⟨j0,j1,j2,j3,j4,j5,fun _=>rfl,fun _=>rfl,fun _=>rfl,j9,j10,j11,j12⟩,hW.two hs9 hbq hBq hge⟩
   refine StepsI.cons rfl ?_ ?_
   ·rintro L zA v ⟨zB,zS,NB,bs,bl,g,cq,rfl,rfl,⟨j0,j1,j2,j3,j4,j5,j6,j7,j8,j9,j10,j11,j12⟩,hW⟩ hL hm K hK
    have hb9:zB 9=false:=by simpa using hL
    have hb3:zB 3=true:=by simpa using dp hm 3 (by kernel_rfl)
    have hb8:zB 8=true:=by simpa using dp hm 8 (by kernel_rfl)
    have e3:zS 49=.string s:=j3 hb3
    have e8:zS 54=.agg #[.int .i64 6,.string ⟨#[]⟩,.int .i64 0,.slice (some ⟨NB,0,none⟩) 2 2]:=j8 hb8
    clear hL hm
    rw [hb9] at hW
    rw [hb8] at hW
    simp only [pCE]
    simp only [e3,e8]
    go_simp
    go_at_call 95
    refine (sSet_any s (nextA s NB) _).mono ?_
    rintro e w8 ⟨bq,rfl,hBq,hge,hbq⟩
    simp only [A.val]
    exact hK.out _ _ ⟨fun zj=>if zj=8 then true else if zj=3 then true else if zj=9 then true else zB zj,fun zd=>if zd=55 then .agg #[.int .i64 21,.string s,.int .i64 0,.slice (some ⟨bq,0,none⟩) 1 1] else if zd=54 then .agg #[.int .i64 6,.string ⟨#[]⟩,.int .i64 0,.slice (some ⟨NB,0,none⟩) 2 2] else if zd=49 then .string s else zS zd,NB,bq,bl,g,cq,by simp [hb3,hb8],by kernel_rfl,⟨j0,j1,j2,fun _=>rfl,j4,j5,j6,j7,fun _=>rfl,fun _=>rfl,j10,j11,j12⟩,hW.set hs9 hbq hBq hge⟩
   refine StepsI.cons rfl ?_ ?_
   ·rintro L zA v ⟨zB,zS,NB,bs,bl,g,cq,rfl,rfl,⟨j0,j1,j2,j3,j4,j5,j6,j7,j8,j9,j10,j11,j12⟩,hW⟩ hL hm K hK
    have hb10:zB 10=false:=by simpa using hL
    have hb9:zB 9=true:=by simpa using dp hm 9 (by kernel_rfl)
    have e9:zS 55=.agg #[.int .i64 21,.string s,.int .i64 0,.slice (some ⟨bs,0,none⟩) 1 1]:=j9 hb9
    clear hL hm
    rw [hb10] at hW
    rw [hb9] at hW
    simp only [pCE]
    simp only [e9]
    go_simp
    exact hK.out _ _ ⟨fun zj=>if zj=9 then true else if zj=10 then true else zB zj,fun zd=>if zd=56 then .slice (some ⟨v.heap.size,0,none⟩) 1 1 else if zd=55 then .agg #[.int .i64 21,.string s,.int .i64 0,.slice (some ⟨bs,0,none⟩) 1 1] else zS zd,NB,bs,v.heap.size,g,cq,by simp [hb9],by kernel_rfl,⟨j0,j1,j2,j3,j4,j5,j6,j7,j8,fun _=>rfl,fun _=>rfl,j11,j12⟩,hW.lay⟩
   refine StepsI.cons rfl ?_ ?_
   ·rintro L zA v ⟨zB,zS,NB,bs,bl,g,cq,rfl,rfl,⟨j0,j1,j2,j3,j4,j5,j6,j7,j8,j9,j10,j11,j12⟩,hW⟩ hL hm K hK
    have hb11:zB 11=false:=by simpa using hL
    have hb1:zB 1=true:=by simpa using dp hm 1 (by kernel_rfl)
    have hb10:zB 10=true:=by simpa using dp hm 10 (by kernel_rfl)
    have e1:zS 47=.slice za zkk.length zc:=j1 hb1
    have e10:zS 56=.slice (some ⟨bl,0,none⟩) 1 1:=j10 hb10
    clear hL hm
    rw [hb11] at hW
    rw [hb1] at hW
    rw [hb10] at hW
    simp only [pCE]
    simp only [e1,e10]
    have hOA:=hW.ownd HYM.out
    have hlit:=hW.lit rfl rfl
    have hzv:=HYM.out.2.2
    have hsv:=(hW.pre rfl).size
    rw [if_pos (by rfl)]
    refine wp_append_lies _ _ _ 29 rfl B0 31 i0 _ 4 56 Tryz.underlying29 HI.out.1 HI.out.2.1 HI.out.2.2.1 HI.out.2.2.2 rfl (by decide) (.slice za zkk.length zc) zkk.length (xqQ zkk) rfl hOA.own ⟨bl,0,none⟩ 1 1 [.int .i64 21,.string s,.int .i64 0,.slice (some ⟨bs,0,none⟩) 1 1] rfl rfl (World.news_of_block hlit) (fun u hu=>by simp at hu;rcases hu with rfl | rfl | rfl | rfl <;> rfl) (by decide) (by unfold maxLen;omega) (by omega) (by omega) v.heap.size rfl ?_
    intro gq cc2 w4 hown hgrow hat hlt4
    exact hK.out _ _ ⟨fun zj=>if zj=10 then true else if zj=1 then true else if zj=11 then true else zB zj,fun zd=>if zd=57 then .slice (some ⟨gq,0,none⟩) (zkk.length+1) cc2 else if zd=56 then .slice (some ⟨bl,0,none⟩) 1 1 else if zd=47 then .slice za zkk.length zc else zS zd,NB,bs,bl,gq,cc2,by simp [hb1,hb10],by kernel_rfl,⟨j0,fun _=>rfl,j2,j3,j4,j5,j6,j7,j8,j9,fun _=>rfl,fun _=>rfl,j12⟩,hW.app HYM.out hln (by omega) HZB.out (by omega) HZ5.out hown hgrow hat⟩
   refine StepsI.cons rfl ?_ ?_
   ·rintro L zA v ⟨zB,zS,NB,bs,bl,g,cq,rfl,rfl,⟨j0,j1,j2,j3,j4,j5,j6,j7,j8,j9,j10,j11,j12⟩,hW⟩ hL hm K hK
    have hb12:zB 12=false:=by simpa using hL
    clear hL hm
    simp only [pCE]
    go_simp
    exact hK.out _ _ ⟨fun zj=>if zj=12 then true else zB zj,fun zd=>if zd=58 then .pointer (some ⟨Z,3,none⟩) else zS zd,NB,bs,bl,g,cq,rfl,by kernel_rfl,⟨j0,j1,j2,j3,j4,j5,j6,j7,j8,j9,j10,j11,fun _=>rfl⟩,hW⟩
   refine StepsI.cons rfl ?_ ?_
   ·rintro L zA v ⟨zB,zS,NB,bs,bl,g,cq,rfl,rfl,⟨j0,j1,j2,j3,j4,j5,j6,j7,j8,j9,j10,j11,j12⟩,hW⟩ hL hm K hK
    have hb13:zB 13=false:=by simpa using hL
    have hb11:zB 11=true:=by simpa using dp hm 11 (by kernel_rfl)
    have hb12:zB 12=true:=by simpa using dp hm 12 (by kernel_rfl)
    have e11:zS 57=.slice (some ⟨g,0,none⟩) (zkk.length+1) cq:=j11 hb11
    have e12:zS 58=.pointer (some ⟨Z,3,none⟩):=j12 hb12
    clear hL hm
    rw [hb13] at hW
    rw [hb11] at hW
    simp only [pCE]
    simp only [e11,e12]
    obtain ⟨y0,y1,y2,y3,y4,y5,y6,y7⟩:=xcQ (hW.zapp rfl)
    go_simp
    exact hK.out _ _ ⟨fun zj=>if zj=12 then true else if zj=11 then true else if zj=13 then true else zB zj,fun zd=>if zd=58 then .pointer (some ⟨Z,3,none⟩) else if zd=57 then .slice (some ⟨g,0,none⟩) (zkk.length+1) cq else zS zd,NB,bs,bl,g,cq,by simp [hb11,hb12],by kernel_rfl,⟨j0,j1,j2,j3,j4,j5,j6,j7,j8,j9,j10,fun _=>rfl,fun _=>rfl⟩,hW.put hz1Z⟩
   exact StepsI.nil (by kernel_rfl)
  ·rintro L zA v ⟨zB,zS,NB,bs,bl,g,cq,rfl,rfl,⟨j0,j1,j2,j3,j4,j5,j6,j7,j8,j9,j10,j11,j12⟩,hW⟩ hr
   have hu:=all_up (by kernel_rfl) (N:=14) (by kernel_rfl) hr
   have hb0:zB 0=true:=by simpa using hu 0 (by decide)
   have hb1:zB 1=true:=by simpa using hu 1 (by decide)
   have hb2:zB 2=true:=by simpa using hu 2 (by decide)
   have hb3:zB 3=true:=by simpa using hu 3 (by decide)
   have hb4:zB 4=true:=by simpa using hu 4 (by decide)
   have hb5:zB 5=true:=by simpa using hu 5 (by decide)
   have hb6:zB 6=true:=by simpa using hu 6 (by decide)
   have hb7:zB 7=true:=by simpa using hu 7 (by decide)
   have hb8:zB 8=true:=by simpa using hu 8 (by decide)
   have hb9:zB 9=true:=by simpa using hu 9 (by decide)
   have hb10:zB 10=true:=by simpa using hu 10 (by decide)
   have hb11:zB 11=true:=by simpa using hu 11 (by decide)
   have hb12:zB 12=true:=by simpa using hu 12 (by decide)
   have hb13:zB 13=true:=by simpa using hu 13 (by decide)
   have e0:zS 46=.pointer (some ⟨Z,3,none⟩):=j0 hb0
   have e1:zS 47=.slice za zkk.length zc:=j1 hb1
   have e2:zS 48=.pointer (some ⟨P,1,none⟩):=j2 hb2
   have e3:zS 49=.string s:=j3 hb3
   have e4:zS 50=.pointer (some ⟨P,1,none⟩):=j4 hb4
   have e5:zS 51=.string s:=j5 hb5
   have e6:zS 52=.agg #[.int .i64 2,.string s,.int .i64 0,.slice none 0 0]:=j6 hb6
   have e7:zS 53=.agg #[.int .i64 1,.string ⟨#[]⟩,.int .i64 1,.slice none 0 0]:=j7 hb7
   have e8:zS 54=.agg #[.int .i64 6,.string ⟨#[]⟩,.int .i64 0,.slice (some ⟨NB,0,none⟩) 2 2]:=j8 hb8
   have e9:zS 55=.agg #[.int .i64 21,.string s,.int .i64 0,.slice (some ⟨bs,0,none⟩) 1 1]:=j9 hb9
   have e10:zS 56=.slice (some ⟨bl,0,none⟩) 1 1:=j10 hb10
   have e11:zS 57=.slice (some ⟨g,0,none⟩) (zkk.length+1) cq:=j11 hb11
   have e12:zS 58=.pointer (some ⟨Z,3,none⟩):=j12 hb12
   rw [hb1] at hW
   rw [hb8] at hW
   rw [hb9] at hW
   rw [hb10] at hW
   rw [hb11] at hW
   rw [hb13] at hW
   clear hu hr j0 j1 j2 j3 j4 j5 j6 j7 j8 j9 j10 j11 j12
   simp only [pCE]
   simp only [e0,e1,e2,e3,e4,e5,e6,e7,e8,e9,e10,e11,e12]
   clear e0 e1 e2 e3 e4 e5 e6 e7 e8 e9 e10 e11 e12
   clear hb0 hb1 hb2 hb3 hb4 hb5 hb6 hb7 hb8 hb9 hb10 hb11 hb12 hb13
   clear zB zS
   go_wp2_with fail
   go_meet
   exact hW.done HYE.out
 case rest =>
  obtain ⟨x,hxz,hxe,hxm,_,hbc⟩:=hcut
  obtain ⟨ka,sa,ma,aa,ca,kka⟩:=x
  simp only [A.cells] at hxz
  have HZC:=xaQ hxz
  have hZl:=xiQ hxz
  have HXE2:=xaQ hxe
  have HXM:=xaQ hxm
  have HBC:=xaQ hbc
  have hn0:B0≤wc.heap.size:=by omega
  clear hxz hxe hxm hbc HYM HYE HZ5 HZB HB5 HBV
  go_upto_region 12 with fail
  go_cut [2] from 59 to 78 (fun s2 v=>∃ (ya yb:A) (bs bc bw bl:Nat),s2=.slice (some ⟨bl,0,none⟩) 2 2∧ForI wc v B0 s (.node ka sa ma aa ca kka) TA TB true true true true true true ya yb bs bc bw bl)
  case first =>
   refine yRQ (fun zA0 L zA v=>∃ (zB:Nat→Bool) (zS:Nat→Value) (ya:A) (yb:A) (bs:Nat) (bc:Nat) (bw:Nat) (bl:Nat),L=#[zB 0,zB 1,zB 2,zB 3,zB 4,zB 5,zB 6,zB 7,zB 8,zB 9,zB 10,zB 11,zB 12,zB 13,zB 14,zB 15,zB 16,zB 17,zB 18,zB 19,zB 20]∧zA=puts zA0 [(59,zS 59),(60,zS 60),(61,zS 61),(62,zS 62),(63,zS 63),(64,zS 64),(65,zS 65),(66,zS 66),(67,zS 67),(68,zS 68),(69,zS 69),(70,zS 70),(71,zS 71),(72,zS 72),(73,zS 73),(74,zS 74),(75,zS 75),(76,zS 76),(77,zS 77),(78,zS 78),(2,zS 2)]∧((zB 0=true→zS 59=.pointer (some ⟨P,1,none⟩))∧(zB 1=true→zS 60=.string s)∧(zB 2=true→zS 61=.pointer (some ⟨P,3,none⟩))∧(zB 3=true→zS 62=.slice (some ⟨b,o,none⟩) 3 cc)∧(zB 4=true→zS 63=.pointer (some ⟨b,o,none⟩))∧(zB 5=true→zS 64=.agg #[.int .i64 k1,.string s1,.int .i64 m1,.slice xa1 kk1.length xc1])∧(zB 6=true→zS 65=ya.val)∧(zB 7=true→zS 66=.agg #[.int .i64 21,.string s,.int .i64 0,.slice (some ⟨bs,0,none⟩) 1 1])∧(zB 8=true→zS 67=.pointer (some ⟨P,1,none⟩))∧(zB 9=true→zS 68=.string s)∧(zB 10=true→zS 69=.agg #[.int .i64 2,.string s,.int .i64 0,.slice none 0 0])∧(zB 11=true→zS 70=.pointer (some ⟨P,3,none⟩))∧(zB 12=true→zS 71=.slice (some ⟨b,o,none⟩) 3 cc)∧(zB 13=true→zS 72=.pointer (some ⟨b,o+4,none⟩))∧(zB 14=true→zS 73=.agg #[.int .i64 k2,.string s2,.int .i64 m2,.slice xa2 kk2.length xc2])∧(zB 15=true→zS 74=yb.val)∧(zB 16=true→zS 75=.agg #[.int .i64 11,.string ⟨#[]⟩,.int .i64 0,.slice (some ⟨bc,0,none⟩) 2 2])∧(zB 17=true→zS 76=.agg #[.int .i64 ka,.string sa,.int .i64 ma,.slice aa kka.length ca])∧(zB 18=true→zS 77=.agg #[.int .i64 25,.string ⟨#[]⟩,.int .i64 0,.slice (some ⟨bw,0,none⟩) 2 2])∧(zB 19=true→zS 78=.slice (some ⟨bl,0,none⟩) 2 2)∧(zB 20=true→zS 2=.slice (some ⟨bl,0,none⟩) 2 2))∧(ForI wc v B0 s (.node ka sa ma aa ca kka) TA TB (zB 6) (zB 7) (zB 15) (zB 16) (zB 18) (zB 19) ya yb bs bc bw bl∧((zB 20)=true→(zB 19)=true))) (by kernel_rfl) ?_ ?_ ?_
   ·exact ⟨fun _=>false,fun zd=>if zd=2 then .slice none 0 0 else undef,varA s,varA s,0,0,0,0,rfl,by kernel_rfl,⟨fun e=>ft e,fun e=>ft e,fun e=>ft e,fun e=>ft e,fun e=>ft e,fun e=>ft e,fun e=>ft e,fun e=>ft e,fun e=>ft e,fun e=>ft e,fun e=>ft e,fun e=>ft e,fun e=>ft e,fun e=>ft e,fun e=>ft e,fun e=>ft e,fun e=>ft e,fun e=>ft e,fun e=>ft e,fun e=>ft e,fun e=>ft e⟩,⟨ForI.start hs9,fun e=>ft e⟩⟩
   ·refine StepsI.cons rfl ?_ ?_
    ·rintro L zA v ⟨zB,zS,ya,yb,bs,bc,bw,bl,rfl,rfl,⟨j0,j1,j2,j3,j4,j5,j6,j7,j8,j9,j10,j11,j12,j13,j14,j15,j16,j17,j18,j19,j20⟩,hW⟩ hL hm K hK
     have hb0:zB 0=false:=by simpa using hL
     clear hL hm
     simp only [puts,aE]
     go_simp
     exact hK.out _ _ ⟨fun zj=>if zj=0 then true else zB zj,fun zd=>if zd=59 then .pointer (some ⟨P,1,none⟩) else zS zd,ya,yb,bs,bc,bw,bl,rfl,by kernel_rfl,⟨fun _=>rfl,j1,j2,j3,j4,j5,j6,j7,j8,j9,j10,j11,j12,j13,j14,j15,j16,j17,j18,j19,j20⟩,hW⟩
    refine StepsI.cons rfl ?_ ?_
    ·rintro L zA v ⟨zB,zS,ya,yb,bs,bc,bw,bl,rfl,rfl,⟨j0,j1,j2,j3,j4,j5,j6,j7,j8,j9,j10,j11,j12,j13,j14,j15,j16,j17,j18,j19,j20⟩,hW⟩ hL hm K hK
     have hb1:zB 1=false:=by simpa using hL
     have hb0:zB 0=true:=by simpa using dp hm 0 (by kernel_rfl)
     have e0:zS 59=.pointer (some ⟨P,1,none⟩):=j0 hb0
     clear hL hm
     simp only [puts,aE]
     simp only [e0]
     obtain ⟨y0,y1,y2,y3⟩:=HFP.out _ (xbQ HBC.out hW.1.bel)
     go_simp
     exact hK.out _ _ ⟨fun zj=>if zj=0 then true else if zj=1 then true else zB zj,fun zd=>if zd=60 then .string s else if zd=59 then .pointer (some ⟨P,1,none⟩) else zS zd,ya,yb,bs,bc,bw,bl,by simp [hb0],by kernel_rfl,⟨fun _=>rfl,fun _=>rfl,j2,j3,j4,j5,j6,j7,j8,j9,j10,j11,j12,j13,j14,j15,j16,j17,j18,j19,j20⟩,hW⟩
    refine StepsI.cons rfl ?_ ?_
    ·rintro L zA v ⟨zB,zS,ya,yb,bs,bc,bw,bl,rfl,rfl,⟨j0,j1,j2,j3,j4,j5,j6,j7,j8,j9,j10,j11,j12,j13,j14,j15,j16,j17,j18,j19,j20⟩,hW⟩ hL hm K hK
     have hb2:zB 2=false:=by simpa using hL
     clear hL hm
     simp only [puts,aE]
     go_simp
     exact hK.out _ _ ⟨fun zj=>if zj=2 then true else zB zj,fun zd=>if zd=61 then .pointer (some ⟨P,3,none⟩) else zS zd,ya,yb,bs,bc,bw,bl,rfl,by kernel_rfl,⟨j0,j1,fun _=>rfl,j3,j4,j5,j6,j7,j8,j9,j10,j11,j12,j13,j14,j15,j16,j17,j18,j19,j20⟩,hW⟩
    refine StepsI.cons rfl ?_ ?_
    ·rintro L zA v ⟨zB,zS,ya,yb,bs,bc,bw,bl,rfl,rfl,⟨j0,j1,j2,j3,j4,j5,j6,j7,j8,j9,j10,j11,j12,j13,j14,j15,j16,j17,j18,j19,j20⟩,hW⟩ hL hm K hK
     have hb3:zB 3=false:=by simpa using hL
     have hb2:zB 2=true:=by simpa using dp hm 2 (by kernel_rfl)
     have e2:zS 61=.pointer (some ⟨P,3,none⟩):=j2 hb2
     clear hL hm
     simp only [puts,aE]
     simp only [e2]
     obtain ⟨y0,y1,y2,y3⟩:=HFP.out _ (xbQ HBC.out hW.1.bel)
     go_simp
     exact hK.out _ _ ⟨fun zj=>if zj=2 then true else if zj=3 then true else zB zj,fun zd=>if zd=62 then .slice (some ⟨b,o,none⟩) 3 cc else if zd=61 then .pointer (some ⟨P,3,none⟩) else zS zd,ya,yb,bs,bc,bw,bl,by simp [hb2],by kernel_rfl,⟨j0,j1,fun _=>rfl,fun _=>rfl,j4,j5,j6,j7,j8,j9,j10,j11,j12,j13,j14,j15,j16,j17,j18,j19,j20⟩,hW⟩
    refine StepsI.cons rfl ?_ ?_
    ·rintro L zA v ⟨zB,zS,ya,yb,bs,bc,bw,bl,rfl,rfl,⟨j0,j1,j2,j3,j4,j5,j6,j7,j8,j9,j10,j11,j12,j13,j14,j15,j16,j17,j18,j19,j20⟩,hW⟩ hL hm K hK
     have hb4:zB 4=false:=by simpa using hL
     have hb3:zB 3=true:=by simpa using dp hm 3 (by kernel_rfl)
     have e3:zS 62=.slice (some ⟨b,o,none⟩) 3 cc:=j3 hb3
     clear hL hm
     simp only [puts,aE]
     simp only [e3]
     go_simp
     exact hK.out _ _ ⟨fun zj=>if zj=3 then true else if zj=4 then true else zB zj,fun zd=>if zd=63 then .pointer (some ⟨b,o,none⟩) else if zd=62 then .slice (some ⟨b,o,none⟩) 3 cc else zS zd,ya,yb,bs,bc,bw,bl,by simp [hb3],by kernel_rfl,⟨j0,j1,j2,fun _=>rfl,fun _=>rfl,j5,j6,j7,j8,j9,j10,j11,j12,j13,j14,j15,j16,j17,j18,j19,j20⟩,hW⟩
    refine StepsI.cons rfl ?_ ?_
    ·rintro L zA v ⟨zB,zS,ya,yb,bs,bc,bw,bl,rfl,rfl,⟨j0,j1,j2,j3,j4,j5,j6,j7,j8,j9,j10,j11,j12,j13,j14,j15,j16,j17,j18,j19,j20⟩,hW⟩ hL hm K hK
     have hb5:zB 5=false:=by simpa using hL
     have hb4:zB 4=true:=by simpa using dp hm 4 (by kernel_rfl)
     have e4:zS 63=.pointer (some ⟨b,o,none⟩):=j4 hb4
     clear hL hm
     simp only [puts,aE]
     simp only [e4]
     obtain ⟨y0,y1,y2,y3,_⟩:=HK0.out _ (xbQ HBC.out hW.1.bel)
     simp only [Nat.zero_mul,Nat.add_zero] at y0 y1 y2 y3
     go_simp
     exact hK.out _ _ ⟨fun zj=>if zj=4 then true else if zj=5 then true else zB zj,fun zd=>if zd=64 then .agg #[.int .i64 k1,.string s1,.int .i64 m1,.slice xa1 kk1.length xc1] else if zd=63 then .pointer (some ⟨b,o,none⟩) else zS zd,ya,yb,bs,bc,bw,bl,by simp [hb4],by kernel_rfl,⟨j0,j1,j2,j3,fun _=>rfl,fun _=>rfl,j6,j7,j8,j9,j10,j11,j12,j13,j14,j15,j16,j17,j18,j19,j20⟩,hW⟩
    refine StepsI.cons rfl ?_ ?_
    ·rintro L zA v ⟨zB,zS,ya,yb,bs,bc,bw,bl,rfl,rfl,⟨j0,j1,j2,j3,j4,j5,j6,j7,j8,j9,j10,j11,j12,j13,j14,j15,j16,j17,j18,j19,j20⟩,hW⟩ hL hm K hK
     have hb6:zB 6=false:=by simpa using hL
     have hb5:zB 5=true:=by simpa using dp hm 5 (by kernel_rfl)
     have e5:zS 64=.agg #[.int .i64 k1,.string s1,.int .i64 m1,.slice xa1 kk1.length xc1]:=j5 hb5
     clear hL hm
     rw [hb6] at hW
     simp only [puts,aE]
     simp only [e5]
     go_simp
     go_at_call 67
     refine (HC1.out _ (xbQ HBC.out hW.1.bel)).mono ?_
     rintro e w8 ⟨y,rfl,hye,hym,hbq⟩
     exact hK.out _ _ ⟨fun zj=>if zj=5 then true else if zj=6 then true else zB zj,fun zd=>if zd=65 then y.val else if zd=64 then .agg #[.int .i64 k1,.string s1,.int .i64 m1,.slice xa1 kk1.length xc1] else zS zd,y,yb,bs,bc,bw,bl,by simp [hb5],by kernel_rfl,⟨j0,j1,j2,j3,j4,fun _=>rfl,fun _=>rfl,j7,j8,j9,j10,j11,j12,j13,j14,j15,j16,j17,j18,j19,j20⟩,⟨hW.1.cpA hbq hym hye,hW.2⟩⟩
    refine StepsI.cons rfl ?_ ?_
    ·rintro L zA v ⟨zB,zS,ya,yb,bs,bc,bw,bl,rfl,rfl,⟨j0,j1,j2,j3,j4,j5,j6,j7,j8,j9,j10,j11,j12,j13,j14,j15,j16,j17,j18,j19,j20⟩,hW⟩ hL hm K hK
     have hb7:zB 7=false:=by simpa using hL
     have hb1:zB 1=true:=by simpa using dp hm 1 (by kernel_rfl)
     have hb6:zB 6=true:=by simpa using dp hm 6 (by kernel_rfl)
     have e1:zS 60=.string s:=j1 hb1
     have e6:zS 65=ya.val:=j6 hb6
     clear hL hm
     rw [hb7] at hW
     rw [hb6] at hW
     simp only [puts,aE]
     simp only [e1,e6]
     go_simp
     go_at_call 95
     refine (sSet_any s ya _).mono ?_
     rintro e w8 ⟨bq,rfl,hBq,hge,hbq⟩
     simp only [A.val]
     exact hK.out _ _ ⟨fun zj=>if zj=6 then true else if zj=1 then true else if zj=7 then true else zB zj,fun zd=>if zd=66 then .agg #[.int .i64 21,.string s,.int .i64 0,.slice (some ⟨bq,0,none⟩) 1 1] else if zd=65 then ya.val else if zd=60 then .string s else zS zd,ya,yb,bq,bc,bw,bl,by simp [hb1,hb6],by kernel_rfl,⟨j0,fun _=>rfl,j2,j3,j4,j5,fun _=>rfl,fun _=>rfl,j8,j9,j10,j11,j12,j13,j14,j15,j16,j17,j18,j19,j20⟩,⟨hW.1.set hs9 hbq hBq hge,hW.2⟩⟩
    refine StepsI.cons rfl ?_ ?_
    ·rintro L zA v ⟨zB,zS,ya,yb,bs,bc,bw,bl,rfl,rfl,⟨j0,j1,j2,j3,j4,j5,j6,j7,j8,j9,j10,j11,j12,j13,j14,j15,j16,j17,j18,j19,j20⟩,hW⟩ hL hm K hK
     have hb8:zB 8=false:=by simpa using hL
     clear hL hm
     simp only [puts,aE]
     go_simp
     exact hK.out _ _ ⟨fun zj=>if zj=8 then true else zB zj,fun zd=>if zd=67 then .pointer (some ⟨P,1,none⟩) else zS zd,ya,yb,bs,bc,bw,bl,rfl,by kernel_rfl,⟨j0,j1,j2,j3,j4,j5,j6,j7,fun _=>rfl,j9,j10,j11,j12,j13,j14,j15,j16,j17,j18,j19,j20⟩,hW⟩
    refine StepsI.cons rfl ?_ ?_
    ·rintro L zA v ⟨zB,zS,ya,yb,bs,bc,bw,bl,rfl,rfl,⟨j0,j1,j2,j3,j4,j5,j6,j7,j8,j9,j10,j11,j12,j13,j14,j15,j16,j17,j18,j19,j20⟩,hW⟩ hL hm K hK
     have hb9:zB 9=false:=by simpa using hL
     have hb8:zB 8=true:=by simpa using dp hm 8 (by kernel_rfl)
     have e8:zS 67=.pointer (some ⟨P,1,none⟩):=j8 hb8
     clear hL hm
     simp only [puts,aE]
     simp only [e8]
     obtain ⟨y0,y1,y2,y3⟩:=HFP.out _ (xbQ HBC.out hW.1.bel)
     go_simp
     exact hK.out _ _ ⟨fun zj=>if zj=8 then true else if zj=9 then true else zB zj,fun zd=>if zd=68 then .string s else if zd=67 then .pointer (some ⟨P,1,none⟩) else zS zd,ya,yb,bs,bc,bw,bl,by simp [hb8],by kernel_rfl,⟨j0,j1,j2,j3,j4,j5,j6,j7,fun _=>rfl,fun _=>rfl,j10,j11,j12,j13,j14,j15,j16,j17,j18,j19,j20⟩,hW⟩
    refine StepsI.cons rfl ?_ ?_
    ·rintro L zA v ⟨zB,zS,ya,yb,bs,bc,bw,bl,rfl,rfl,⟨j0,j1,j2,j3,j4,j5,j6,j7,j8,j9,j10,j11,j12,j13,j14,j15,j16,j17,j18,j19,j20⟩,hW⟩ hL hm K hK
     have hb10:zB 10=false:=by simpa using hL
     have hb9:zB 9=true:=by simpa using dp hm 9 (by kernel_rfl)
     have e9:zS 68=.string s:=j9 hb9
     clear hL hm
     simp only [puts,aE]
     simp only [e9]
     go_simp
     go_at_call 97
     refine (sVar_any s _).mono ?_
     rintro e w8 ⟨rfl,hbq⟩
     simp only [A.val]
     exact hK.out _ _ ⟨fun zj=>if zj=9 then true else if zj=10 then true else zB zj,fun zd=>if zd=69 then .agg #[.int .i64 2,.string s,.int .i64 0,.slice none 0 0] else if zd=68 then .string s else zS zd,ya,yb,bs,bc,bw,bl,by simp [hb9],by kernel_rfl,⟨j0,j1,j2,j3,j4,j5,j6,j7,j8,fun _=>rfl,fun _=>rfl,j11,j12,j13,j14,j15,j16,j17,j18,j19,j20⟩,⟨hW.1.below hbq,hW.2⟩⟩
    refine StepsI.cons rfl ?_ ?_
    ·rintro L zA v ⟨zB,zS,ya,yb,bs,bc,bw,bl,rfl,rfl,⟨j0,j1,j2,j3,j4,j5,j6,j7,j8,j9,j10,j11,j12,j13,j14,j15,j16,j17,j18,j19,j20⟩,hW⟩ hL hm K hK
     have hb11:zB 11=false:=by simpa using hL
     clear hL hm
     simp only [puts,aE]
     go_simp
     exact hK.out _ _ ⟨fun zj=>if zj=11 then true else zB zj,fun zd=>if zd=70 then .pointer (some ⟨P,3,none⟩) else zS zd,ya,yb,bs,bc,bw,bl,rfl,by kernel_rfl,⟨j0,j1,j2,j3,j4,j5,j6,j7,j8,j9,j10,fun _=>rfl,j12,j13,j14,j15,j16,j17,j18,j19,j20⟩,hW⟩
    refine StepsI.cons rfl ?_ ?_
    ·rintro L zA v ⟨zB,zS,ya,yb,bs,bc,bw,bl,rfl,rfl,⟨j0,j1,j2,j3,j4,j5,j6,j7,j8,j9,j10,j11,j12,j13,j14,j15,j16,j17,j18,j19,j20⟩,hW⟩ hL hm K hK
     have hb12:zB 12=false:=by simpa using hL
     have hb11:zB 11=true:=by simpa using dp hm 11 (by kernel_rfl)
     have e11:zS 70=.pointer (some ⟨P,3,none⟩):=j11 hb11
     clear hL hm
     simp only [puts,aE]
     simp only [e11]
     obtain ⟨y0,y1,y2,y3⟩:=HFP.out _ (xbQ HBC.out hW.1.bel)
     go_simp
     exact hK.out _ _ ⟨fun zj=>if zj=11 then true else if zj=12 then true else zB zj,fun zd=>if zd=71 then .slice (some ⟨b,o,none⟩) 3 cc else if zd=70 then .pointer (some ⟨P,3,none⟩) else zS zd,ya,yb,bs,bc,bw,bl,by simp [hb11],by kernel_rfl,⟨j0,j1,j2,j3,j4,j5,j6,j7,j8,j9,j10,fun _=>rfl,fun _=>rfl,j13,j14,j15,j16,j17,j18,j19,j20⟩,hW⟩
    refine StepsI.cons rfl ?_ ?_
    ·rintro L zA v ⟨zB,zS,ya,yb,bs,bc,bw,bl,rfl,rfl,⟨j0,j1,j2,j3,j4,j5,j6,j7,j8,j9,j10,j11,j12,j13,j14,j15,j16,j17,j18,j19,j20⟩,hW⟩ hL hm K hK
     have hb13:zB 13=false:=by simpa using hL
     have hb12:zB 12=true:=by simpa using dp hm 12 (by kernel_rfl)
     have e12:zS 71=.slice (some ⟨b,o,none⟩) 3 cc:=j12 hb12
     clear hL hm
     simp only [puts,aE]
     simp only [e12]
     go_simp
     exact hK.out _ _ ⟨fun zj=>if zj=12 then true else if zj=13 then true else zB zj,fun zd=>if zd=72 then .pointer (some ⟨b,o+4,none⟩) else if zd=71 then .slice (some ⟨b,o,none⟩) 3 cc else zS zd,ya,yb,bs,bc,bw,bl,by simp [hb12],by kernel_rfl,⟨j0,j1,j2,j3,j4,j5,j6,j7,j8,j9,j10,j11,fun _=>rfl,fun _=>rfl,j14,j15,j16,j17,j18,j19,j20⟩,hW⟩
    refine StepsI.cons rfl ?_ ?_
    ·rintro L zA v ⟨zB,zS,ya,yb,bs,bc,bw,bl,rfl,rfl,⟨j0,j1,j2,j3,j4,j5,j6,j7,j8,j9,j10,j11,j12,j13,j14,j15,j16,j17,j18,j19,j20⟩,hW⟩ hL hm K hK
     have hb14:zB 14=false:=by simpa using hL
     have hb13:zB 13=true:=by simpa using dp hm 13 (by kernel_rfl)
     have e13:zS 72=.pointer (some ⟨b,o+4,none⟩):=j13 hb13
     clear hL hm
     simp only [puts,aE]
     simp only [e13]
     obtain ⟨y0,y1,y2,y3,_⟩:=HK1.out _ (xbQ HBC.out hW.1.bel)
     simp only [Nat.one_mul] at y0 y1 y2 y3
     go_simp
     exact hK.out _ _ ⟨fun zj=>if zj=13 then true else if zj=14 then true else zB zj,fun zd=>if zd=73 then .agg #[.int .i64 k2,.string s2,.int .i64 m2,.slice xa2 kk2.length xc2] else if zd=72 then .pointer (some ⟨b,o+4,none⟩) else zS zd,ya,yb,bs,bc,bw,bl,by simp [hb13],by kernel_rfl,⟨j0,j1,j2,j3,j4,j5,j6,j7,j8,j9,j10,j11,j12,fun _=>rfl,fun _=>rfl,j15,j16,j17,j18,j19,j20⟩,hW⟩
    refine StepsI.cons rfl ?_ ?_
    ·rintro L zA v ⟨zB,zS,ya,yb,bs,bc,bw,bl,rfl,rfl,⟨j0,j1,j2,j3,j4,j5,j6,j7,j8,j9,j10,j11,j12,j13,j14,j15,j16,j17,j18,j19,j20⟩,hW⟩ hL hm K hK
     have hb15:zB 15=false:=by simpa using hL
     have hb14:zB 14=true:=by simpa using dp hm 14 (by kernel_rfl)
     have e14:zS 73=.agg #[.int .i64 k2,.string s2,.int .i64 m2,.slice xa2 kk2.length xc2]:=j14 hb14
     clear hL hm
     rw [hb15] at hW
     simp only [puts,aE]
     simp only [e14]
     go_simp
     go_at_call 67
     refine (HC2.out _ (xbQ HBC.out hW.1.bel)).mono ?_
     rintro e w8 ⟨y,rfl,hye,hym,hbq⟩
     exact hK.out _ _ ⟨fun zj=>if zj=14 then true else if zj=15 then true else zB zj,fun zd=>if zd=74 then y.val else if zd=73 then .agg #[.int .i64 k2,.string s2,.int .i64 m2,.slice xa2 kk2.length xc2] else zS zd,ya,y,bs,bc,bw,bl,by simp [hb14],by kernel_rfl,⟨j0,j1,j2,j3,j4,j5,j6,j7,j8,j9,j10,j11,j12,j13,fun _=>rfl,fun _=>rfl,j16,j17,j18,j19,j20⟩,⟨hW.1.cpB hbq hym hye hn0,hW.2⟩⟩
    refine StepsI.cons rfl ?_ ?_
    ·rintro L zA v ⟨zB,zS,ya,yb,bs,bc,bw,bl,rfl,rfl,⟨j0,j1,j2,j3,j4,j5,j6,j7,j8,j9,j10,j11,j12,j13,j14,j15,j16,j17,j18,j19,j20⟩,hW⟩ hL hm K hK
     have hb16:zB 16=false:=by simpa using hL
     have hb10:zB 10=true:=by simpa using dp hm 10 (by kernel_rfl)
     have hb15:zB 15=true:=by simpa using dp hm 15 (by kernel_rfl)
     have e10:zS 69=.agg #[.int .i64 2,.string s,.int .i64 0,.slice none 0 0]:=j10 hb10
     have e15:zS 74=yb.val:=j15 hb15
     clear hL hm
     rw [hb16] at hW
     rw [hb15] at hW
     simp only [puts,aE]
     simp only [e10,e15]
     go_simp
     go_at_call 96
     refine (two_new 11 (varA s) yb _).mono ?_
     rintro e w8 ⟨bq,rfl,hBq,hge,hbq⟩
     simp only [A.val]
     exact hK.out _ _ ⟨fun zj=>if zj=15 then true else if zj=10 then true else if zj=16 then true else zB zj,fun zd=>if zd=75 then .agg #[.int .i64 11,.string ⟨#[]⟩,.int .i64 0,.slice (some ⟨bq,0,none⟩) 2 2] else if zd=74 then yb.val else if zd=69 then .agg #[.int .i64 2,.string s,.int .i64 0,.slice none 0 0] else zS zd,ya,yb,bs,bq,bw,bl,by simp [hb10,hb15],by kernel_rfl,⟨j0,j1,j2,j3,j4,j5,j6,j7,j8,j9,fun _=>rfl,j11,j12,j13,j14,fun _=>rfl,fun _=>rfl,j17,j18,j19,j20⟩,⟨hW.1.cnd hs9 hn0 hbq hBq hge,hW.2⟩⟩
    refine StepsI.cons rfl ?_ ?_
    ·rintro L zA v ⟨zB,zS,ya,yb,bs,bc,bw,bl,rfl,rfl,⟨j0,j1,j2,j3,j4,j5,j6,j7,j8,j9,j10,j11,j12,j13,j14,j15,j16,j17,j18,j19,j20⟩,hW⟩ hL hm K hK
     have hb17:zB 17=false:=by simpa using hL
     clear hL hm
     simp only [puts,aE]
     obtain ⟨y0,y1,y2,y3,_⟩:=xcQ ((hW.1.bel.block Z hZl).trans HZC.out)
     go_simp
     exact hK.out _ _ ⟨fun zj=>if zj=17 then true else zB zj,fun zd=>if zd=76 then .agg #[.int .i64 ka,.string sa,.int .i64 ma,.slice aa kka.length ca] else zS zd,ya,yb,bs,bc,bw,bl,rfl,by kernel_rfl,⟨j0,j1,j2,j3,j4,j5,j6,j7,j8,j9,j10,j11,j12,j13,j14,j15,j16,fun _=>rfl,j18,j19,j20⟩,hW⟩
    refine StepsI.cons rfl ?_ ?_
    ·rintro L zA v ⟨zB,zS,ya,yb,bs,bc,bw,bl,rfl,rfl,⟨j0,j1,j2,j3,j4,j5,j6,j7,j8,j9,j10,j11,j12,j13,j14,j15,j16,j17,j18,j19,j20⟩,hW⟩ hL hm K hK
     have hb18:zB 18=false:=by simpa using hL
     have hb16:zB 16=true:=by simpa using dp hm 16 (by kernel_rfl)
     have hb17:zB 17=true:=by simpa using dp hm 17 (by kernel_rfl)
     have e16:zS 75=.agg #[.int .i64 11,.string ⟨#[]⟩,.int .i64 0,.slice (some ⟨bc,0,none⟩) 2 2]:=j16 hb16
     have e17:zS 76=.agg #[.int .i64 ka,.string sa,.int .i64 ma,.slice aa kka.length ca]:=j17 hb17
     clear hL hm
     rw [hb18] at hW
     rw [hb16] at hW
     simp only [puts,aE]
     simp only [e16,e17]
     go_simp
     go_at_call 96
     refine (two_new 25 (.node 11 ⟨#[]⟩ 0 (some ⟨bc,0,none⟩) 2 [varA s,yb]) (.node ka sa ma aa ca kka) _).mono ?_
     rintro e w8 ⟨bq,rfl,hBq,hge,hbq⟩
     simp only [A.val]
     exact hK.out _ _ ⟨fun zj=>if zj=17 then true else if zj=16 then true else if zj=18 then true else zB zj,fun zd=>if zd=77 then .agg #[.int .i64 25,.string ⟨#[]⟩,.int .i64 0,.slice (some ⟨bq,0,none⟩) 2 2] else if zd=76 then .agg #[.int .i64 ka,.string sa,.int .i64 ma,.slice aa kka.length ca] else if zd=75 then .agg #[.int .i64 11,.string ⟨#[]⟩,.int .i64 0,.slice (some ⟨bc,0,none⟩) 2 2] else zS zd,ya,yb,bs,bc,bq,bl,by simp [hb16,hb17],by kernel_rfl,⟨j0,j1,j2,j3,j4,j5,j6,j7,j8,j9,j10,j11,j12,j13,j14,j15,fun _=>rfl,fun _=>rfl,fun _=>rfl,j19,j20⟩,⟨hW.1.whl HXM.out hn0 hbq hBq hge,hW.2⟩⟩
    refine StepsI.cons rfl ?_ ?_
    ·rintro L zA v ⟨zB,zS,ya,yb,bs,bc,bw,bl,rfl,rfl,⟨j0,j1,j2,j3,j4,j5,j6,j7,j8,j9,j10,j11,j12,j13,j14,j15,j16,j17,j18,j19,j20⟩,hW⟩ hL hm K hK
     have hb19:zB 19=false:=by simpa using hL
     have hb7:zB 7=true:=by simpa using dp hm 7 (by kernel_rfl)
     have hb18:zB 18=true:=by simpa using dp hm 18 (by kernel_rfl)
     have e7:zS 66=.agg #[.int .i64 21,.string s,.int .i64 0,.slice (some ⟨bs,0,none⟩) 1 1]:=j7 hb7
     have e18:zS 77=.agg #[.int .i64 25,.string ⟨#[]⟩,.int .i64 0,.slice (some ⟨bw,0,none⟩) 2 2]:=j18 hb18
     clear hL hm
     rw [hb19] at hW
     rw [hb7] at hW
     rw [hb18] at hW
     simp only [puts,aE]
     simp only [e7,e18]
     go_simp
     exact hK.out _ _ ⟨fun zj=>if zj=18 then true else if zj=7 then true else if zj=19 then true else zB zj,fun zd=>if zd=78 then .slice (some ⟨v.heap.size,0,none⟩) 2 2 else if zd=77 then .agg #[.int .i64 25,.string ⟨#[]⟩,.int .i64 0,.slice (some ⟨bw,0,none⟩) 2 2] else if zd=66 then .agg #[.int .i64 21,.string s,.int .i64 0,.slice (some ⟨bs,0,none⟩) 1 1] else zS zd,ya,yb,bs,bc,bw,v.heap.size,by simp [hb7,hb18],by kernel_rfl,⟨j0,j1,j2,j3,j4,j5,j6,fun _=>rfl,j8,j9,j10,j11,j12,j13,j14,j15,j16,j17,fun _=>rfl,fun _=>rfl,fun e=>ft (hW.2 e)⟩,⟨hW.1.lay hn0,fun _=>rfl⟩⟩
    refine StepsI.cons rfl ?_ ?_
    ·rintro L zA v ⟨zB,zS,ya,yb,bs,bc,bw,bl,rfl,rfl,⟨j0,j1,j2,j3,j4,j5,j6,j7,j8,j9,j10,j11,j12,j13,j14,j15,j16,j17,j18,j19,j20⟩,hW⟩ hL hm K hK
     have hb20:zB 20=false:=by simpa using hL
     have hb19:zB 19=true:=by simpa using dp hm 19 (by kernel_rfl)
     have e19:zS 78=.slice (some ⟨bl,0,none⟩) 2 2:=j19 hb19
     clear hL hm
     rw [hb20] at hW
     rw [hb19] at hW
     simp only [puts,aE]
     simp only [e19]
     go_simp
     exact hK.out _ _ ⟨fun zj=>if zj=19 then true else if zj=20 then true else zB zj,fun zd=>if zd=2 then .slice (some ⟨bl,0,none⟩) 2 2 else if zd=78 then .slice (some ⟨bl,0,none⟩) 2 2 else zS zd,ya,yb,bs,bc,bw,bl,by simp [hb19],by kernel_rfl,⟨j0,j1,j2,j3,j4,j5,j6,j7,j8,j9,j10,j11,j12,j13,j14,j15,j16,j17,j18,fun _=>rfl,fun _=>rfl⟩,⟨hW.1,fun _=>rfl⟩⟩
    exact StepsI.nil (by kernel_rfl)
   ·rintro L zA v ⟨zB,zS,ya,yb,bs,bc,bw,bl,rfl,rfl,⟨j0,j1,j2,j3,j4,j5,j6,j7,j8,j9,j10,j11,j12,j13,j14,j15,j16,j17,j18,j19,j20⟩,hW⟩ hr
    have hu:=all_up (by kernel_rfl) (N:=21) (by kernel_rfl) hr
    have hb0:zB 0=true:=by simpa using hu 0 (by decide)
    have hb1:zB 1=true:=by simpa using hu 1 (by decide)
    have hb2:zB 2=true:=by simpa using hu 2 (by decide)
    have hb3:zB 3=true:=by simpa using hu 3 (by decide)
    have hb4:zB 4=true:=by simpa using hu 4 (by decide)
    have hb5:zB 5=true:=by simpa using hu 5 (by decide)
    have hb6:zB 6=true:=by simpa using hu 6 (by decide)
    have hb7:zB 7=true:=by simpa using hu 7 (by decide)
    have hb8:zB 8=true:=by simpa using hu 8 (by decide)
    have hb9:zB 9=true:=by simpa using hu 9 (by decide)
    have hb10:zB 10=true:=by simpa using hu 10 (by decide)
    have hb11:zB 11=true:=by simpa using hu 11 (by decide)
    have hb12:zB 12=true:=by simpa using hu 12 (by decide)
    have hb13:zB 13=true:=by simpa using hu 13 (by decide)
    have hb14:zB 14=true:=by simpa using hu 14 (by decide)
    have hb15:zB 15=true:=by simpa using hu 15 (by decide)
    have hb16:zB 16=true:=by simpa using hu 16 (by decide)
    have hb17:zB 17=true:=by simpa using hu 17 (by decide)
    have hb18:zB 18=true:=by simpa using hu 18 (by decide)
    have hb19:zB 19=true:=by simpa using hu 19 (by decide)
    have hb20:zB 20=true:=by simpa using hu 20 (by decide)
    have e0:zS 59=.pointer (some ⟨P,1,none⟩):=j0 hb0
    have e1:zS 60=.string s:=j1 hb1
    have e2:zS 61=.pointer (some ⟨P,3,none⟩):=j2 hb2
    have e3:zS 62=.slice (some ⟨b,o,none⟩) 3 cc:=j3 hb3
    have e4:zS 63=.pointer (some ⟨b,o,none⟩):=j4 hb4
    have e5:zS 64=.agg #[.int .i64 k1,.string s1,.int .i64 m1,.slice xa1 kk1.length xc1]:=j5 hb5
    have e6:zS 65=ya.val:=j6 hb6
    have e7:zS 66=.agg #[.int .i64 21,.string s,.int .i64 0,.slice (some ⟨bs,0,none⟩) 1 1]:=j7 hb7
    have e8:zS 67=.pointer (some ⟨P,1,none⟩):=j8 hb8
    have e9:zS 68=.string s:=j9 hb9
    have e10:zS 69=.agg #[.int .i64 2,.string s,.int .i64 0,.slice none 0 0]:=j10 hb10
    have e11:zS 70=.pointer (some ⟨P,3,none⟩):=j11 hb11
    have e12:zS 71=.slice (some ⟨b,o,none⟩) 3 cc:=j12 hb12
    have e13:zS 72=.pointer (some ⟨b,o+4,none⟩):=j13 hb13
    have e14:zS 73=.agg #[.int .i64 k2,.string s2,.int .i64 m2,.slice xa2 kk2.length xc2]:=j14 hb14
    have e15:zS 74=yb.val:=j15 hb15
    have e16:zS 75=.agg #[.int .i64 11,.string ⟨#[]⟩,.int .i64 0,.slice (some ⟨bc,0,none⟩) 2 2]:=j16 hb16
    have e17:zS 76=.agg #[.int .i64 ka,.string sa,.int .i64 ma,.slice aa kka.length ca]:=j17 hb17
    have e18:zS 77=.agg #[.int .i64 25,.string ⟨#[]⟩,.int .i64 0,.slice (some ⟨bw,0,none⟩) 2 2]:=j18 hb18
    have e19:zS 78=.slice (some ⟨bl,0,none⟩) 2 2:=j19 hb19
    have e20:zS 2=.slice (some ⟨bl,0,none⟩) 2 2:=j20 hb20
    rw [hb6] at hW
    rw [hb7] at hW
    rw [hb15] at hW
    rw [hb16] at hW
    rw [hb18] at hW
    rw [hb19] at hW
    rw [hb20] at hW
    clear hu hr j0 j1 j2 j3 j4 j5 j6 j7 j8 j9 j10 j11 j12 j13 j14 j15 j16 j17 j18 j19 j20
    simp only [puts,aE]
    simp only [e0,e1,e2,e3,e4,e5,e6,e7,e8,e9,e10,e11,e12,e13,e14,e15,e16,e17,e18,e19,e20]
    clear e0 e1 e2 e3 e4 e5 e6 e7 e8 e9 e10 e11 e12 e13 e14 e15 e16 e17 e18 e19 e20
    clear hb0 hb1 hb2 hb3 hb4 hb5 hb6 hb7 hb8 hb9 hb10 hb11 hb12 hb13 hb14 hb15 hb16 hb17 hb18 hb19 hb20
    clear zB zS
    go_wp2_with fail
    go_meet
    exact ⟨ya,yb,bs,bc,bw,bl,rfl,hW.1⟩
  case rest =>
   obtain ⟨ya,yb,bs,bc,bw,bl,rfl,hF⟩:=hcut
   obtain ⟨xl,xr,l1,l2,l3,l4,l5,l6,l7⟩:=hF.trees
   have exl:=l5 rfl
   have exr:=l6 rfl
   rw [if_pos rfl] at exl exr
   have h7:=l7 rfl
   have hbw:=HB.out.size
   go_wp2
   refine bodyPost_ret (v:=.slice (some ⟨bl,0,none⟩) 2 2) (by simp [results,Tryz.results68,go_sem]) rfl ⟨[xl,xr],_,_,rfl,?_,h7.mono (by omega),fun x e=>(by cases e),xbQ HB.out (xbQ HBC.out hF.bel)⟩
   subst exl exr
   simp only [xmQ,A.erase,hF.era.1 rfl,hF.era.2 rfl]
   have he:=HXE2.out
   simp only [A.erase] at he
   rw [he]
   rfl
theorem plainS_for (s:ByteArray) (m:Int) (kk:List T) (IH:∀ t∈kk,PlainS t):PlainS (.node 26 s m kk):=by
 intro _ _ hf hc a cc w hk
 obtain ⟨u1,u2,u3,rfl,g1,g2,k3,_⟩:=formed_for hf
 have h:=sFor_any s m u1 u2 u3 hf hc (IH u3 (by simp)) k3 a cc w hk
 rw [plnK_for,good_pln u1 g1.good,good_pln u2 g2.good]
 exact h
theorem sPlain_any (t:T):PlainS t:=by
 refine T.induct (P:=PlainS) ?_ t
 intro k s m kk IH
 by_cases h26:k=26
 ·subst h26;exact plainS_for s m kk IH
 by_cases h30:k=30
 ·subst h30;exact plainS_block s m kk IH
 exact plainS_other k s m kk h26 h30 IH
end Go.Proofs.YtocbgbkdlfkjjaaGreatDoor
