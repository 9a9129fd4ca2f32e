/- THE MARKS THAT THE LAW WRITES INTO A TREE OF ITS OWN: plain facts, and a row in memory that is written in place. -/
import Derived.Test.YtocbgbkdlfkjjaaGreatDoorMCc
import Derived.Test.YtocbgbkdlfkjjaaGreatDoorMSa
import Derived.Test.YtocbgbkdlfkjjaaGreatDoorMHh
set_option maxRecDepth 100000
namespace Go.Proofs.YtocbgbkdlfkjjaaGreatDoor
open Go.RowKit
open Pl
theorem mtF_len (f k:Nat):∀ o:List UInt8,(mtF f k o).length≤f+o.length:=by
 induction f generalizing k with
 | zero=>intro o;simp [mtF]
 | succ f ih =>
   intro o
   simp only [mtF]
   split
   ·omega
   ·have:=ih (k / 10) ((48+k % 10).toUInt8 :: o)
    simp only [List.length_cons] at this
    omega
theorem mtI_size (k:Nat):(mtI k).size≤k+1:=by
 have:=mtF_len k k []
 simp only [mtI,ByteArray.size,List.size_toArray,List.length_cons,List.length_nil] at this ⊢
 omega
theorem cnts_app (p q:List T):cnts (p++q)=cnts p+cnts q:=zUQ p q
mutual
def markT:Nat→T→T
 | k,.node _ _ _ kk=>.node k (mtI (k+1)) ((k+2:Nat):Int) (marksT (k+3) kk)
def marksT:Nat→List T→List T
 | _,[]=>[]
 | k,t :: r=>markT k t :: marksT (k+3 * cnt t) r
end
mutual
def markA:Nat→A→A
 | k,.node _ _ _ a c kk=>.node k (mtI (k+1)) ((k+2:Nat):Int) a c (marksA (k+3) kk)
def marksA:Nat→List A→List A
 | _,[]=>[]
 | k,x :: r=>markA k x :: marksA (k+3 * cnt x.erase) r
end
theorem marksA_len (kk:List A):∀ k,(marksA k kk).length=kk.length:=by
 induction kk with
 | nil=>intro k;simp [marksA]
 | cons x r ih=>intro k;simp only [marksA,List.length_cons,ih]
theorem marksT_len (kk:List T):∀ k,(marksT k kk).length=kk.length:=by
 induction kk with
 | nil=>intro k;simp [marksT]
 | cons x r ih=>intro k;simp only [marksT,List.length_cons,ih]
mutual
theorem markA_erase:∀ (k:Nat) (x:A),(markA k x).erase=markT k x.erase
 | k,.node _ _ _ _ _ kk=>by simp only [markA,A.erase,markT,marksA_erase (k+3) kk]
theorem marksA_erase:∀ (k:Nat) (kk:List A),xmQ (marksA k kk)=marksT k (xmQ kk)
 | _,[]=>by simp only [marksA,xmQ,marksT]
 | k,x :: r=>by simp only [marksA,xmQ,marksT,markA_erase k x,marksA_erase _ r]
end
mutual
theorem markA_foot:∀ (k:Nat) (x:A),(markA k x).foot=x.foot
 | k,.node _ _ _ _ _ kk=>by simp only [markA,A.foot,marksA_len,marksA_feet (k+3) kk]
theorem marksA_feet:∀ (k:Nat) (kk:List A),feet (marksA k kk)=feet kk
 | _,[]=>by simp only [marksA,feet]
 | k,x :: r=>by simp only [marksA,feet,markA_foot k x,marksA_feet _ r]
end
theorem marksA_append (p q:List A):∀ k,marksA k (p++q)=marksA k p++marksA (k+3 * cnts (xmQ p)) q:=by
 induction p with
 | nil=>intro k;simp [marksA,xmQ,cnts]
 | cons x r ih =>
   intro k
   simp only [List.cons_append,marksA,xmQ,cnts,ih]
   rw [show k+3 * cnt x.erase+3 * cnts (xmQ r)=k+3 * (cnt x.erase+cnts (xmQ r)) by omega]
theorem marksT_get {kk:List T} {j:Nat} {t:T} (h:kk[j]?=some t):∀ k,(marksT k kk)[j]?=some (markT (k+3 * cnts (kk.take j)) t):=by
 induction kk generalizing j with
 | nil=>simp at h
 | cons x r ih =>
   intro k
   cases j with
   | zero=>simp at h;subst h;simp [marksT,cnts]
   | succ j =>
     simp at h
     simp only [marksT,List.getElem?_cons_succ,List.take_succ_cons,cnts]
     rw [ih h]
     rw [show k+3 * cnt x+3 * cnts (r.take j)=k+3 * (cnt x+cnts (r.take j)) by omega]
theorem erases_take (kk:List A):∀ j,xmQ (kk.take j)=(xmQ kk).take j:=by
 induction kk with
 | nil=>intro j;simp [xmQ]
 | cons x r ih=>intro j;cases j <;> simp [xmQ,ih]
def RowAt (w:World) (b:Nat) (kk:List A):Prop:=∃ cs,w.heap[b]?=some (.cells cs 31 (0,0))∧∀ (i:Nat) (v:Value),(xqQ kk)[i]?=some v→cs[i]?=some v
theorem cellsL_set {L R:List A} {x x':A} {t:Nat} {v:Value} (ht:t<4) (hx:x'.cells=x.cells.set t v):xqQ (L++x' :: R)=(xqQ (L++x :: R)).set (L.length * 4+t) v:=by
 have e:∀ y,xqQ (L++y :: R)=xqQ L++(y.cells++xqQ R):=by intro y;simp [xqQ]
 have l:∀ y:A,y.cells.length=4:=by intro y;cases y;rfl
 rw [e,e,hx,List.set_append_right _ _ (by rw [zrQ];omega),zrQ,show L.length * 4+t - L.length * 4=t by omega,List.set_append_left _ _ (by rw [l];exact ht)]
theorem RowAt.set {w:World} {b:Nat} {L R:List A} {x x':A} {t:Nat} {v:Value} (h:RowAt w b (L++x :: R)) (ht:t<4) (hx:x'.cells=x.cells.set t v):RowAt (w.setCell ⟨b,L.length * 4+t,none⟩ v) b (L++x' :: R):=by
 obtain ⟨cs,h1,h2⟩:=h
 refine ⟨_,heap_setCell_same w b _ cs 31 v h1,fun i u hu=>?_⟩
 rw [cellsL_set ht hx,List.getElem?_set] at hu
 rw [Array.getElem?_setIfInBounds]
 split at hu
 ·rename_i e
  subst e
  split at hu
  ·rename_i hl
   obtain ⟨y,hy⟩:∃ y,(xqQ (L++x :: R))[L.length * 4+t]?=some y:=⟨_,List.getElem?_eq_getElem hl⟩
   have hc:=(Array.getElem?_eq_some_iff.1 (h2 _ _ hy)).1
   rw [if_pos rfl,if_pos hc];exact hu
  ·cases hu
 ·rename_i e
  rw [if_neg e];exact h2 _ _ hu
theorem RowAt.keep {w w':World} {b:Nat} {kk:List A} (h:RowAt w b kk) (hb:w'.heap[b]?=w.heap[b]?):RowAt w' b kk:=by
 obtain ⟨cs,h1,h2⟩:=h
 exact ⟨cs,hb.trans h1,h2⟩
theorem RowAt.lt {w:World} {b:Nat} {kk:List A} (h:RowAt w b kk):b<w.heap.size:=by
 obtain ⟨cs,h1,_⟩:=h
 exact (Array.getElem?_eq_some_iff.1 h1).1
theorem RowAt.same {w:World} {b:Nat} {kk kk':List A} (h:RowAt w b kk) (e:xqQ kk'=xqQ kk):RowAt w b kk':=by
 obtain ⟨cs,h1,h2⟩:=h
 exact ⟨cs,h1,by rw [e];exact h2⟩
theorem RowAt.at {w:World} {b:Nat} {L R:List A} {k m:Int} {s:ByteArray} {a:Option Addr} {c:Nat} {q:List A} (h:RowAt w b (L++.node k s m a c q :: R)) :
    w.cell? ⟨b,L.length * 4,none⟩=some (.int .i64 k)∧w.cell? ⟨b,L.length * 4+1,none⟩=some (.string s)∧w.cell? ⟨b,L.length * 4+2,none⟩=some (.int .i64 m)∧w.cell? ⟨b,L.length * 4+3,none⟩=some (.slice a q.length c)∧∀ i,w.frozen? ⟨b,i,none⟩=false:=by
 obtain ⟨cs,h1,h2⟩:=h
 obtain ⟨g0,g1,g2,g3⟩:=cellsL_get (kk:=L++.node k s m a c q :: R) (i:=L.length) (k:=k) (s:=s) (m:=m) (a:=a) (c:=c) (q:=q) (by simp)
 exact ⟨cell_in h1 (h2 _ _ g0),cell_in h1 (h2 _ _ g1),cell_in h1 (h2 _ _ g2),cell_in h1 (h2 _ _ g3),fun i=>Lib.frozen_of_heap h1 i⟩
structure Out (F:List Nat) (w w':World):Prop where
 os:w'.os=w.os
 tape:w'.tape=w.tape
 output:w'.output=w.output
 size:w.heap.size≤w'.heap.size
 block:∀ b,b<w.heap.size→b ∉ F→w'.heap[b]?=w.heap[b]?
theorem Out.refl (F:List Nat) (w:World):Out F w w:=⟨rfl,rfl,rfl,Nat.le_refl _,fun _ _ _=>rfl⟩
theorem Out.trans {F:List Nat} {a b c:World} (h:Out F a b) (k:Out F b c):Out F a c :=
 ⟨k.os.trans h.os,k.tape.trans h.tape,k.output.trans h.output,Nat.le_trans h.size k.size,fun i hi hn=>(k.block i (Nat.lt_of_lt_of_le hi h.size) hn).trans (h.block i hi hn)⟩
theorem Out.of_below {F:List Nat} {a b:World} (h:Below a.heap.size a b):Out F a b:=⟨h.os,h.tape,h.output,h.size,fun i hi _=>h.block i hi⟩
theorem Out.mono {F G:List Nat} {a b:World} (h:Out F a b) (hs:∀ x∈F,x∈G):Out G a b:=⟨h.os,h.tape,h.output,h.size,fun i hi hn=>h.block i hi (fun q=>hn (hs i q))⟩
theorem Out.setCell {F:List Nat} {a b:World} (h:Out F a b) {p:Addr} (hp:p.block∈F) (u:Value):Out F a (b.setCell p u) :=
 ⟨h.os,h.tape,h.output,by simp only [World.setCell,Array.size_modify];exact h.size,fun k hk hn=>by
  rw [Below.heap_setCell _ _ _ _ (fun e=>hn (by rw [e];exact hp))]
  exact h.block k hk hn⟩
theorem Out.sitsL {F:List Nat} {a b:World} (h:Out F a b) {kk:List A} (hs:SitsL a kk) (hd:∀ q∈feet kk,q ∉ F):SitsL b kk:=hs.stay fun q hq=>h.block q (SitsL.lt hs q hq) (hd q hq)
theorem Out.sits {F:List Nat} {a b:World} (h:Out F a b) {x:A} (hs:Sits a x) (hd:∀ q∈x.foot,q ∉ F):Sits b x:=Sits.stay x (fun q hq=>h.block q (Sits.lt x hs q hq) (hd q hq)) hs
structure MInv (w:World) (b:Nat) (kk:List A) (k j:Nat) (w':World):Prop where
 row:RowAt w' b (marksA k (kk.take j)++kk.drop j)
 sits:SitsL w' (marksA k (kk.take j)++kk.drop j)
 out:Out (b :: feet kk) w w'
theorem sitsL_split {w:World} {p q:List A} {x:A} (h:SitsL w (p++x :: q)):SitsL w p∧Sits w x∧SitsL w q :=
 ⟨(yyQ _ _).2 fun y hy=>(yyQ _ _).1 h y (by simp [hy]),(yyQ _ _).1 h x (by simp),(yyQ _ _).2 fun y hy=>(yyQ _ _).1 h y (by simp [hy])⟩
theorem sitsL_join {w:World} {p q:List A} {x:A} (h1:SitsL w p) (h2:Sits w x) (h3:SitsL w q):SitsL w (p++x :: q) :=
 (yyQ _ _).2 fun y hy=>by
  rcases List.mem_append.1 hy with hy | hy
  ·exact (yyQ _ _).1 h1 y hy
  ·rcases List.mem_cons.1 hy with rfl | hy
   ·exact h2
   ·exact (yyQ _ _).1 h3 y hy
theorem drop_at {kk:List A} {j:Nat} {x:A} (h:kk[j]?=some x):kk.drop j=x :: kk.drop (j+1):=by
 have hj:=(List.getElem?_eq_some_iff.1 h).1
 rw [List.drop_eq_getElem_cons hj]
 congr 1
 exact (List.getElem?_eq_some_iff.1 h).2
theorem take_at {kk:List A} {j:Nat} {x:A} (h:kk[j]?=some x):kk.take (j+1)=kk.take j++[x]:=by
 rw [List.take_add_one,h];rfl
theorem parts_at {kk:List A} {j:Nat} {x:A} (h:kk[j]?=some x):kk=kk.take j++x :: kk.drop (j+1):=by
 rw [← drop_at h,List.take_append_drop]
theorem MInv.mid {w:World} {b:Nat} {kk:List A} {k j:Nat} {wr w1:World} {xk xm:Int} {xs:ByteArray} {xa:Option Addr} {xc:Nat} {xkk:List A} {v:Int} {u:ByteArray} {z:Int} (h:MInv w b kk k j wr) (hx:kk[j]?=some (.node xk xs xm xa xc xkk)) (hnd:(b :: feet kk).Nodup)
    (hb:Below (wr.setCell ⟨b,j * 4,none⟩ (.int .i64 v)).heap.size (wr.setCell ⟨b,j * 4,none⟩ (.int .i64 v)) w1) :
    RowAt w1 b (marksA k (kk.take j)++.node v xs xm xa xc xkk :: kk.drop (j+1))∧RowAt ((w1.setCell ⟨b,j * 4+1,none⟩ (.string u)).setCell ⟨b,j * 4+2,none⟩ (.int .i64 z)) b (marksA k (kk.take j)++.node v u z xa xc xkk :: kk.drop (j+1)) ∧
    Out [b] wr ((w1.setCell ⟨b,j * 4+1,none⟩ (.string u)).setCell ⟨b,j * 4+2,none⟩ (.int .i64 z))∧Sits ((w1.setCell ⟨b,j * 4+1,none⟩ (.string u)).setCell ⟨b,j * 4+2,none⟩ (.int .i64 z)) (.node xk xs xm xa xc xkk):=by
 have hj:j<kk.length:=(List.getElem?_eq_some_iff.1 hx).1
 have hL:(marksA k (kk.take j)).length=j:=by rw [marksA_len];simp;omega
 have h0:=h.row
 rw [drop_at hx] at h0
 have hA:=h0.set (t:=0) (v:=.int .i64 v) (x':=.node v xs xm xa xc xkk) (by decide) rfl
 rw [hL,Nat.add_zero] at hA
 have h1:=hA.keep (hb.block b hA.lt)
 have h2:=h1.set (t:=1) (v:=.string u) (x':=.node v u xm xa xc xkk) (by decide) rfl
 have h3:=h2.set (t:=2) (v:=.int .i64 z) (x':=.node v u z xa xc xkk) (by decide) rfl
 rw [hL] at h3
 have ho:Out [b] wr ((w1.setCell ⟨b,j * 4+1,none⟩ (.string u)).setCell ⟨b,j * 4+2,none⟩ (.int .i64 z)) :=
  (((((Out.refl [b] wr).setCell (p:=⟨b,j * 4,none⟩) (by simp) (.int .i64 v)).trans (Out.of_below hb)).setCell (p:=⟨b,j * 4+1,none⟩) (by simp) _).setCell (p:=⟨b,j * 4+2,none⟩) (by simp) _)
 have hs:=h.sits
 rw [drop_at hx] at hs
 refine ⟨h1,h3,ho,ho.sits (sitsL_split hs).2.1 (fun q hq e=>?_)⟩
 rw [List.mem_singleton] at e
 subst e
 exact (List.nodup_cons.1 hnd).1 (feet_mem.2 ⟨_,List.mem_of_getElem? hx,hq⟩)
theorem MInv.step {w:World} {b:Nat} {kk:List A} {k j:Nat} {wr w1 w3:World} {xk xm:Int} {xs:ByteArray} {xa:Option Addr} {xc:Nat} {xkk:List A} (h:MInv w b kk k j wr) (hx:kk[j]?=some (.node xk xs xm xa xc xkk)) (hnd:(b :: feet kk).Nodup)
    (kj:Nat) (hkj:kj=k+3 * cnts (xmQ (kk.take j))) (hk5:kj≤20000) {v z:Int} {u:ByteArray} (hv:v=kj) (hu:u=mtI (kj+1)) (hz:z=((kj+2:Nat):Int))
    (hb:Below (wr.setCell ⟨b,j * 4,none⟩ (.int .i64 v)).heap.size (wr.setCell ⟨b,j * 4,none⟩ (.int .i64 v)) w1)
    (h3o:Out (A.node xk xs xm xa xc xkk).foot ((w1.setCell ⟨b,j * 4+1,none⟩ (.string u)).setCell ⟨b,j * 4+2,none⟩ (.int .i64 z)) w3) (h3s:SitsL w3 (marksA (kj+3) xkk)) (h3b:Bed w3 xa (marksA (kj+3) xkk)):MInv w b kk k (j+1) w3:=by
 obtain ⟨r1,r2,o2,s2⟩:=h.mid (u:=u) (z:=z) hx hnd hb
 have hs:=h.sits
 rw [drop_at hx] at hs
 obtain ⟨sL,sx,sR⟩:=sitsL_split hs
 have hkk:=parts_at hx
 have hno:b ∉ feet kk:=(List.nodup_cons.1 hnd).1
 have hnf:(feet kk).Nodup:=(List.nodup_cons.1 hnd).2
 have hfe:feet kk=feet (kk.take j)++((A.node xk xs xm xa xc xkk).foot++feet (kk.drop (j+1))):=by
  conv=>lhs;rw [hkk]
  rw [yeQ];simp only [feet]
 rw [hfe] at hno hnf
 have hmx:∀ q∈(A.node xk xs xm xa xc xkk).foot,q∈feet kk:=fun q hq=>by rw [hfe];simp [hq]
 obtain ⟨n1,n2,n3⟩:=List.nodup_append.1 hnf
 obtain ⟨n4,n5,n6⟩:=List.nodup_append.1 n2
 have e4:marksA k (kk.take (j+1))=marksA k (kk.take j)++[markA kj (.node xk xs xm xa xc xkk)]:=by
  rw [take_at hx,marksA_append,hkj];simp only [marksA]
 have sx':Sits w3 (markA kj (.node xk xs xm xa xc xkk)):=by
  have hl:=sx
  simp only [Sits] at hl
  simp only [markA,Sits]
  exact ⟨by have:=mtI_size (kj+1);unfold maxLen;omega,by rw [marksA_len];exact hl.2.1,h3b,h3s⟩
 have goL:SitsL w3 (marksA k (kk.take j)):=by
  refine h3o.sitsL (o2.sitsL sL (fun q hq e=>?_)) (fun q hq e=>?_)
  ·rw [List.mem_singleton] at e;subst e
   rw [marksA_feet] at hq
   exact hno (by simp [hq])
  ·rw [marksA_feet] at hq
   exact n3 q hq q (by simp [e]) rfl
 have goR:SitsL w3 (kk.drop (j+1)):=by
  refine h3o.sitsL (o2.sitsL sR (fun q hq e=>?_)) (fun q hq e=>?_)
  ·rw [List.mem_singleton] at e;subst e
   exact hno (by simp [hq])
  ·exact n6 q e q hq rfl
 refine ⟨?_,?_,?_⟩
 ·rw [e4,List.append_assoc]
  refine (r2.keep (h3o.block b r2.lt (fun q=>hno (by simp [q])))).same ?_
  have e:∀ y,xqQ (marksA k (kk.take j)++y :: kk.drop (j+1))=xqQ (marksA k (kk.take j))++(y.cells++xqQ (kk.drop (j+1))):=by intro y;simp [xqQ]
  rw [List.singleton_append,e,e]
  simp only [markA,A.cells,marksA_len]
  rw [hv,hu,hz]
 ·rw [e4,List.append_assoc,List.singleton_append]
  exact sitsL_join goL sx' goR
 ·exact (h.out.trans (o2.mono fun q hq=>by rw [List.mem_singleton] at hq;subst hq;simp)).trans (h3o.mono fun q hq=>by simp [hmx q hq])
end Go.Proofs.YtocbgbkdlfkjjaaGreatDoor
namespace Go.Proofs.YtocbgbkdlfkjjaaGreatDoor
open Go.RowKit
open Pl
theorem markText_intA (x:Int) (k:Nat) (hx:x=k) (w:World) (h0:1≤k) (h1:k≤20000):Calls Tryz.prog 52 #[.int .i64 x] w fun e w'=>e=.returned (.string (mtI k))∧Below w.heap.size w w':=by
 subst hx;exact markText_any k w h0 (by omega)
set_option maxHeartbeats 400000 in
theorem marks_nil (a:Option Addr) (c:Nat) (k:Int) (w:World):Calls Tryz.prog 48 #[.slice a 0 c,.int .i64 k] w fun e w'=>e=.returned (.int .i64 k)∧w=w':=by
 go_enter Tryz.func48,Tryz.ntmps48
 go_wp2
 go_loop [1,5] (fun l i=>l=.int .i64 k∧i=.int .i64 0) (fun _ _=>0)
 case atStart=>exact ⟨rfl,rfl⟩
 case round =>
  obtain ⟨rfl,rfl⟩:=hrel
  go_wp2
  go_ret
  exact ⟨rfl,rfl⟩
set_option maxHeartbeats 400000 in
theorem helds_nil (a:Option Addr) (c:Nat) (k:Int) (w:World):Calls Tryz.prog 49 #[.slice a 0 c,.int .i64 k] w fun e w'=>e=.returned (.int .i64 k)∧w=w':=by
 go_enter Tryz.func49,Tryz.ntmps49
 go_wp2
 go_loop [1,5] (fun l i=>l=.int .i64 k∧i=.int .i64 0) (fun _ _=>0)
 case atStart=>exact ⟨rfl,rfl⟩
 case round =>
  obtain ⟨rfl,rfl⟩:=hrel
  go_wp2
  go_ret
  exact ⟨rfl,rfl⟩
def MarkOkA (x:A):Prop:=match x with
 | .node k0 s0 m0 a c kk=>∀ (y:Int) (k:Nat) (w:World),y=k→1≤k→k+3 * cnts (xmQ kk)≤20000→Sits w (.node k0 s0 m0 a c kk)→(A.node k0 s0 m0 a c kk).foot.Nodup →
   Calls Tryz.prog 48 #[.slice a kk.length c,.int .i64 y] w fun e w'=>e=.returned (.int .i64 ((k+3 * cnts (xmQ kk):Nat):Int))∧SitsL w' (marksA k kk)∧Bed w' a (marksA k kk)∧Out (A.node k0 s0 m0 a c kk).foot w w'
theorem cnts_at {kk:List A} {j:Nat} {x:A} (h:kk[j]?=some x):cnts (xmQ (kk.take (j+1)))=cnts (xmQ (kk.take j))+cnt x.erase∧cnts (xmQ (kk.take j))+cnt x.erase≤cnts (xmQ kk):=by
 have h1:cnts (xmQ (kk.take (j+1)))=cnts (xmQ (kk.take j))+cnt x.erase:=by
  rw [take_at h,xvQ,cnts_app];simp only [xmQ,cnts,Nat.add_zero]
 refine ⟨h1,?_⟩
 have h2:cnts (xmQ kk)=cnts (xmQ (kk.take (j+1)))+cnts (xmQ (kk.drop (j+1))):=by
  rw [← cnts_app,← xvQ,List.take_append_drop]
 omega
theorem foot_nodup {kk:List A} {x:A} (h:x∈kk) (hn:(feet kk).Nodup):x.foot.Nodup:=by
 induction kk with
 | nil=>cases h
 | cons y r ih =>
   simp only [feet] at hn
   obtain ⟨n1,n2,_⟩:=List.nodup_append.1 hn
   rcases List.mem_cons.1 h with rfl | h
   ·exact n1
   ·exact ih h n2
set_option maxHeartbeats 2000000 in
theorem marks_row (kk:List A) (IH:∀ x∈kk,MarkOkA x) (b c k:Nat) (w:World) (h2:k+3 * cnts (xmQ kk)≤20000) (hn:kk.length≤maxLen) (hR:RowAt w b kk) (hS:SitsL w kk) (hnd:(b :: feet kk).Nodup) :
    Calls Tryz.prog 48 #[.slice (some ⟨b,0,none⟩) kk.length c,.int .i64 k] w fun e w'=>e=.returned (.int .i64 ((k+3 * cnts (xmQ kk):Nat):Int))∧SitsL w' (marksA k kk)∧RowAt w' b (marksA k kk)∧Out (b :: feet kk) w w':=by
 unfold maxLen at hn
 have HI:=xaQ IH
 have HND:=xaQ hnd
 have H0:=xaQ (show MInv w b kk k 0 w from ⟨by simpa [marksA] using hR,by simpa [marksA] using hS,Out.refl _ _⟩)
 have H2:=xaQ h2
 clear IH hnd hR hS h2
 go_enter Tryz.func48,Tryz.ntmps48
 go_wp2
 go_loopw [1,5] (fun l i w'=>∃ (j kj:Nat),j≤kk.length∧i=.int .i64 j∧l=.int .i64 kj∧Hid (kj=k+3 * cnts (xmQ (kk.take j)))∧MInv w b kk k j w') (fun _ i _=>kk.length - (intOf i).toNat)
 case atStart=>exact ⟨0,k,Nat.zero_le _,rfl,rfl,xaQ (by simp [xmQ,cnts]),H0.out⟩
 case round =>
  obtain ⟨j,kj,hj,rfl,rfl,HKJ,hM⟩:=hrel
  have HM:=xaQ hM
  clear hM H0
  by_cases hlt:j<kk.length
  ·obtain ⟨x,hx⟩:∃ x,kk[j]?=some x:=⟨_,List.getElem?_eq_getElem hlt⟩
   have HC:=xaQ (cnts_at hx)
   have HIx:=HI.out x (List.mem_of_getElem? hx)
   obtain ⟨xk,xs,xm,xa,xc,xkk⟩:=x
   have hcx:cnt (A.node xk xs xm xa xc xkk).erase=1+cnts (xmQ xkk):=by simp only [A.erase,cnt]
   have hb5:kj+3+3 * cnts (xmQ xkk)≤20000:=by have:=HC.out.2;have:=HKJ.out;have:=H2.out;omega
   have HCX:=xaQ hcx
   have hL:(marksA k (kk.take j)).length=j:=by rw [marksA_len];simp;omega
   have hrow:=HM.out.row
   rw [drop_at hx] at hrow
   obtain ⟨c0,_,_,_,fz⟩:=hrow.at
   rw [hL] at c0
   have f0:=fz (j * 4)
   have HX:=xaQ hx
   have HL:=xaQ hL
   have HY:=xaQ HIx
   have HNX:=xaQ (foot_nodup (List.mem_of_getElem? hx) (List.nodup_cons.1 HND.out).2)
   clear hrow fz hx hL hcx HIx
   have i0:(0:Int)≤(j:Int):=by omega
   have i1:(j:Int)<(kk.length:Int):=by omega
   go_wp2_with fail
   refine (markText_intA _ (kj+1) (by omega) _ (by omega) (by omega)).mono ?_
   rintro e w1 ⟨rfl,hb1⟩
   have HMD:=xaQ (HM.out.mid (u:=mtI (kj+1)) (z:=(kj:Int)+1+1) HX.out HND.out hb1)
   have HB1:=xaQ hb1
   obtain ⟨_,d1,d2,d3,gz⟩:=HMD.out.1.at
   rw [HL.out] at d1 d2 d3
   have f1:=gz (j * 4+1)
   have f2:=gz (j * 4+2)
   clear gz hb1 c0 f0
   go_wp2_with fail
   refine (HY.out _ (kj+3) _ (by omega) (by omega) hb5 HMD.out.2.2.2 HNX.out).mono ?_
   rintro e w3 ⟨rfl,g1,g2,g3⟩
   have HM3:=xaQ (HM.out.step HX.out HND.out kj HKJ.out (by omega) rfl rfl (by omega) HB1.out g3 g1 g2)
   have hN:kj+3+3 * cnts (xmQ xkk)=k+3 * cnts (xmQ (kk.take (j+1))):=by have:=HC.out.1;have:=HKJ.out;have:=HCX.out;omega
   have HN:=xaQ hN
   generalize kj+3+3 * cnts (xmQ xkk)=N at HN hb5 ⊢
   clear g1 g2 g3 hN d1 d2 d3 f1 f2 HMD HB1
   go_wp2
   go_roundw
   case rel=>exact ⟨j+1,N,by omega,by go_num,rfl,HN,HM3.out⟩
   case measure=>simp [intOf];omega
  ·go_wp2
   go_ret
   have e:j=kk.length:=by omega
   subst e
   have hm:=HM.out
   have hk:=HKJ.out
   rw [List.take_length] at hk
   have hr:=hm.row
   have hs:=hm.sits
   rw [List.take_length,List.drop_length,List.append_nil] at hr hs
   exact ⟨xVQ (by rw [hk]),hs,hr,hm.out⟩
theorem mark_all (x:A):MarkOkA x:=by
 refine A.induct ?_ x
 intro k0 s0 m0 a c kk IH y k w hy _ h2 hs hnd
 subst hy
 simp only [Sits] at hs
 obtain ⟨_,hn,hb,hl⟩:=hs
 by_cases e:kk.length=0
 ·have:kk=[]:=List.eq_nil_of_length_eq_zero e
  subst this
  refine (marks_nil a c _ w).mono ?_
  rintro e w' ⟨rfl,rfl⟩
  exact ⟨by simp [xmQ,cnts],trivial,.inl (by simp [marksA]),Out.refl _ _⟩
 ·rcases hb with h | ⟨b,cs,rfl,hb1,hb2⟩
  ·exact absurd (by rw [h];rfl) e
  ·have hf:(A.node k0 s0 m0 (some ⟨b,0,none⟩) c kk).foot=b :: feet kk:=by simp only [A.foot];rw [if_neg e];rfl
   rw [hf] at hnd ⊢
   refine (marks_row kk IH b c k w h2 hn ⟨cs,hb1,hb2⟩ hl hnd).mono ?_
   rintro e w' ⟨rfl,g1,⟨cs',g2,g3⟩,g4⟩
   exact ⟨rfl,g1,.inr ⟨b,cs',rfl,g2,g3⟩,g4⟩
theorem cntsT_at {kk:List T} {j:Nat} {x:T} (h:kk[j]?=some x):cnts (kk.take (j+1))=cnts (kk.take j)+cnt x∧cnts (kk.take j)+cnt x≤cnts kk:=by
 have h1:cnts (kk.take (j+1))=cnts (kk.take j)+cnt x:=by
  rw [List.take_add_one,h,cnts_app];simp [cnts]
 refine ⟨h1,?_⟩
 have h2:=zuQ kk (j+1)
 omega
def HeldOk (t:T):Prop:=match t with
 | .node _ _ _ kk=>∀ (y:Int) (k:Nat) (a:Option Addr) (c:Nat) (w:World),y=k→1≤k→k+3 * cnts kk≤20000→kk.length≤maxLen→Kids w 0 a (marksT k kk) →
   Calls Tryz.prog 49 #[.slice a kk.length c,.int .i64 y] w fun e w'=>e=.returned (.int .i64 ((k+3 * cnts kk:Nat):Int))∧Below w.heap.size w w'
set_option maxHeartbeats 2000000 in
theorem helds_row (kk:List T) (IH:∀ x∈kk,HeldOk x) (b off c k:Nat) (w:World) (h2:k+3 * cnts kk≤20000) (hn:kk.length≤maxLen) (hR:LiesL w 0 (marksT k kk) b off) :
    Calls Tryz.prog 49 #[.slice (some ⟨b,off,none⟩) kk.length c,.int .i64 k] w fun e w'=>e=.returned (.int .i64 ((k+3 * cnts kk:Nat):Int))∧Below w.heap.size w w':=by
 unfold maxLen at hn
 have HI:=xaQ IH
 have HR:=xaQ hR
 have H2:=xaQ h2
 clear IH hR h2
 go_enter Tryz.func49,Tryz.ntmps49
 go_wp2
 go_loopw [1,5] (fun l i w'=>∃ (j kj:Nat),j≤kk.length∧i=.int .i64 j∧l=.int .i64 kj∧Hid (kj=k+3 * cnts (kk.take j))∧Below w.heap.size w w') (fun _ i _=>kk.length - (intOf i).toNat)
 case atStart=>exact ⟨0,k,Nat.zero_le _,rfl,rfl,xaQ (by simp [cnts]),Below.refl _ _⟩
 case round =>
  obtain ⟨j,kj,hj,rfl,rfl,HKJ,hB⟩:=hrel
  have HB:=xaQ hB
  clear hB
  by_cases hlt:j<kk.length
  ·obtain ⟨x,hx⟩:∃ x,kk[j]?=some x:=⟨_,List.getElem?_eq_getElem hlt⟩
   have HC:=xaQ (cntsT_at hx)
   have HY:=xaQ (HI.out x (List.mem_of_getElem? hx))
   have hm:=marksT_get hx k
   rw [← HKJ.out] at hm
   obtain ⟨xk,xs,xm,xkk⟩:=x
   simp only [markT] at hm
   obtain ⟨xa,xc,c0,c1,c2,c3,_,hkn,hkids⟩:=(HR.out.below (Nat.zero_le _) HB.out).at hm
   rw [marksT_len] at c3 hkn
   have hb5:kj+3+3 * cnts xkk≤20000:=by have h1:=HC.out.2;have h2:=HKJ.out;have h3:=H2.out;simp only [cnt] at h1;omega
   have HK:=xaQ hkids
   have HKN:=xaQ hkn
   have c2':wr.cell? ⟨b,off+j * 4+2,none⟩=some (.int .i64 ((kj:Int)+1+1)):=by rw [c2];congr 2
   clear hm hx hkids hkn c2
   have hlb:b<wr.heap.size:=World.block_lt_of_cell? wr _ c0
   have i0:(0:Int)≤(j:Int):=by omega
   have i1:(j:Int)<(kk.length:Int):=by omega
   go_wp2
   go_region_held3 (fun w'=>w'.cell? ⟨b,off+j * 4,none⟩=some (.int .i64 (kj:Int))∧w'.cell? ⟨b,off+j * 4+1,none⟩=some (.string (mtI (kj+1)))∧w'.cell? ⟨b,off+j * 4+2,none⟩=some (.int .i64 ((kj:Int)+1+1))∧w'.cell? ⟨b,off+j * 4+3,none⟩=some (.slice xa xkk.length xc)) (first | exact ⟨c0,c1,c2',c3⟩ | exact ⟨(hc _ _ hlb).trans c0,(hc _ _ hlb).trans c1,(hc _ _ hlb).trans c2',(hc _ _ hlb).trans c3⟩)
    (first | (go_at_call 52;refine (markText_intA _ (kj+1) (by omega) _ (by omega) (by omega)).mono ?_;rintro e w1 ⟨rfl,hb1⟩;obtain ⟨hc,hf⟩:=ykQ hb1))
   have HB1:Hid (Below w.heap.size w w1):=HB.out.drew.trans (hb1.mono HB.out.drew.size)
   have HBD:=xaQ (((Below.refl wr.heap.size wr).drew).trans hb1)
   have d2:=(hc _ _ hlb).trans c2'
   have d3:=(hc _ _ hlb).trans c3
   clear hb1 hc hf c0 c1 c2' c3
   go_wp2_with fail
   refine (HY.out _ (kj+3) xa xc _ (by omega) (by omega) hb5 HKN.out (HK.out.below HBD.out)).mono ?_
   rintro e w2 ⟨rfl,hb2⟩
   have HB2:=xaQ (HB1.out.trans (hb2.mono HB1.out.size))
   have hN:kj+3+3 * cnts xkk=k+3 * cnts (kk.take (j+1)):=by have h1:=HC.out.1;have h2:=HKJ.out;simp only [cnt] at h1;omega
   have HN:=xaQ hN
   generalize kj+3+3 * cnts xkk=N at HN hb5 ⊢
   have hn0:decide ((N:Int)<0)=false:=by simp
   clear hb2 hN d2 d3
   go_wp2
   go_roundw
   case rel=>exact ⟨j+1,N,by omega,by go_num,rfl,HN,HB2.out⟩
   case measure=>simp [intOf];omega
  ·go_wp2
   go_ret
   have e:j=kk.length:=by omega
   subst e
   have hk:=HKJ.out
   rw [List.take_length] at hk
   exact ⟨xVQ (by rw [hk]),HB.out⟩
theorem held_all (t:T):HeldOk t:=by
 refine T.induct ?_ t
 intro k0 s0 m0 kk IH y k a c w hy _ h2 hn hk
 subst hy
 rcases hk with h | ⟨b,o,rfl,_,hl⟩
 ·have:kk=[]:=by
    have:=congrArg List.length h
    rw [marksT_len] at this
    exact List.eq_nil_of_length_eq_zero this
  subst this
  refine (helds_nil a c _ w).mono ?_
  rintro e w' ⟨rfl,rfl⟩
  exact ⟨by simp [cnts],Below.refl _ _⟩
 ·exact helds_row kk IH b o c k w h2 hn hl
set_option maxHeartbeats 1000000 in
theorem zOQ (k0:Int) (s0:ByteArray) (m0:Int) (a:Option Addr) (c:Nat) (kk:List A) (w:World) (h2:1+3 * cnts (xmQ kk)≤20000) (hs:Sits w (.node k0 s0 m0 a c kk)) (hnd:(A.node k0 s0 m0 a c kk).foot.Nodup) :
    Calls Tryz.prog 18 #[.agg #[.int .i64 k0,.string s0,.int .i64 m0,.slice a kk.length c],.int .i64 1] w fun e w'=>e=.returned (.int .i64 ((1+3 * cnts (xmQ kk):Nat):Int))∧SitsL w' (marksA 1 kk)∧Bed w' a (marksA 1 kk)∧Out (A.node k0 s0 m0 a c kk).foot w w':=by
 have HY:=xaQ (mark_all (.node k0 s0 m0 a c kk))
 have HB:=xaQ ((Below.refl w.heap.size w).alloc (Nat.le_refl _) (.cells #[.int .i64 k0,.string s0,.int .i64 m0,.slice a kk.length c] 31))
 have HS:=xaQ hs
 have HD:=xaQ hnd
 have H2:=xaQ h2
 clear hs hnd h2
 go_enter Tryz.func18,Tryz.ntmps18
 go_wp2_with fail
 refine (HY.out _ 1 _ rfl (Nat.le_refl _) H2.out (Sits.stay _ (fun q hq=>HB.out.block q (Sits.lt _ HS.out q hq)) HS.out) HD.out).mono ?_
 rintro e w1 ⟨rfl,g1,g2,g3⟩
 have G:=xaQ (And.intro g1 (And.intro g2 ((Out.of_below HB.out).trans g3)))
 generalize hN:1+3 * cnts (xmQ kk)=N
 have HNN:=xaQ hN
 clear g1 g2 g3 hN
 go_wp2
 go_ret
 exact ⟨xVQ (by rw [HNN.out]),G.out⟩
set_option maxHeartbeats 1000000 in
theorem heldNode_ok (k0:Int) (s0:ByteArray) (m0:Int) (a:Option Addr) (c:Nat) (kk:List T) (w:World) (h2:1+3 * cnts kk≤20000) (hn:kk.length≤maxLen) (hk:Kids w 0 a (marksT 1 kk)) :
    Calls Tryz.prog 19 #[.agg #[.int .i64 k0,.string s0,.int .i64 m0,.slice a kk.length c],.int .i64 1] w fun e w'=>e=.returned (.int .i64 ((1+3 * cnts kk:Nat):Int))∧Below w.heap.size w w':=by
 have HY:=xaQ (held_all (.node k0 s0 m0 kk))
 have HB:=xaQ ((Below.refl w.heap.size w).alloc (Nat.le_refl _) (.cells #[.int .i64 k0,.string s0,.int .i64 m0,.slice a kk.length c] 31))
 have HK:=xaQ hk
 have HN:=xaQ hn
 have H2:=xaQ h2
 clear hk hn h2
 go_enter Tryz.func19,Tryz.ntmps19
 go_wp2_with fail
 refine (HY.out _ 1 a c _ rfl (Nat.le_refl _) H2.out HN.out (HK.out.below HB.out)).mono ?_
 rintro e w1 ⟨rfl,hb⟩
 have G:=xaQ (xbQ HB.out hb)
 have h5:=H2.out
 generalize hN:1+3 * cnts kk=N at h5 ⊢
 have HNN:=xaQ hN
 clear hN
 have hn0:decide ((N:Int)<0)=false:=by simp
 clear hb
 go_wp2
 go_ret
 exact ⟨xVQ (by rw [HNN.out]),G.out⟩
end Go.Proofs.YtocbgbkdlfkjjaaGreatDoor
