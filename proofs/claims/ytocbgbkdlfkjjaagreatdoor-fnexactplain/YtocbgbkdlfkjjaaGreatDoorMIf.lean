/- PLAIN FACTS: a tree that was read has no more nodes than words were read, and a few. -/
import Derived.Test.YtocbgbkdlfkjjaaGreatDoorMHo
import Derived.Test.YtocbgbkdlfkjjaaGreatDoorMIe
import Derived.Test.YtocbgbkdlfkjjaaGreatDoorMIa
set_option maxRecDepth 100000
set_option maxHeartbeats 8000000
namespace Go.Proofs.YtocbgbkdlfkjjaaGreatDoor
open Go.RowKit
open Pl
theorem cnts_app (p q:List T):cnts (p++q)=cnts p+cnts q:=by
 induction p with
 | nil=>simp [cnts]
 | cons x r ih=>simp only [List.cons_append,cnts,ih];omega
def Cn (ws:List W3) (f:Nat):Prop:=(∀ i t j,mOne ws f i=.ok t j→cnt t+i≤j)∧(∀ i t j,zgQ ws f i=.ok t j→cnt t+i≤j) ∧
 (∀ x i t j,yBQ ws f x i=.ok t j→cnt t+i≤cnt x+j)∧(∀ i t j,x0Q ws f i=.ok t j→cnt t+i≤j)∧(∀ x i t j,yjQ ws f x i=.ok t j→cnt t+i≤cnt x+j)
theorem cn_one {ws:List W3} {f:Nat} (ih:Cn ws f) {i:Nat} {t:T} {j:Nat} (h:mOne ws (f+1) i=.ok t j):cnt t+i≤j:=by
 obtain ⟨a1,a2,a3,a4,a5⟩:=ih
 simp only [mOne] at h
 split at h
 ·obtain ⟨x,k,h1,h2⟩:=xsQ h
  have:=a1 _ _ _ h1
  obtain ⟨rfl,rfl⟩:=xDQ h2
  simp only [cnt,cnts];omega
 ·split at h
  ·obtain ⟨x,k,h1,h2⟩:=xsQ h
   obtain ⟨h3,h4⟩:=xEQ h2
   have:=a4 _ _ _ h1
   obtain ⟨rfl,rfl⟩:=xDQ h4
   omega
  ·split at h
   ·obtain ⟨g1,h⟩:=xEQ h
    obtain ⟨g2,h⟩:=ypQ h
    obtain ⟨g3,h⟩:=xEQ h
    obtain ⟨rfl,rfl⟩:=xDQ h
    simp only [cnt,cnts];omega
   ·split at h
    ·obtain ⟨rfl,rfl⟩:=xDQ h
     simp only [cnt,cnts];omega
    ·obtain ⟨g,h⟩:=ypQ h
     split at h
     ·obtain ⟨x,k,h1,h2⟩:=xsQ h
      obtain ⟨h3,h4⟩:=xEQ h2
      have:=a4 _ _ _ h1
      obtain ⟨rfl,rfl⟩:=xDQ h4
      simp only [cnt,cnts];omega
     ·obtain ⟨rfl,rfl⟩:=xDQ h
      simp only [cnt,cnts];omega
theorem cn (ws:List W3) (f:Nat):Cn ws f:=by
 induction f with
 | zero=>exact ⟨fun _ _ _ h=>by simp [mOne] at h,fun _ _ _ h=>by simp [zgQ] at h,fun _ _ _ _ h=>by simp [yBQ] at h,fun _ _ _ h=>by simp [x0Q] at h,fun _ _ _ _ h=>by simp [yjQ] at h⟩
 | succ f ih =>
  have ih':=ih
  obtain ⟨a1,a2,a3,a4,a5⟩:=ih
  refine ⟨fun i t j h=>cn_one ih' h,fun i t j h=>?_,fun x i t j h=>?_,fun i t j h=>?_,fun x i t j h=>?_⟩
  ·simp only [zgQ] at h
   obtain ⟨x,k,h1,h2⟩:=xsQ h
   have q:=a1 _ _ _ h1
   have:=a3 _ _ _ _ h2
   omega
  ·simp only [yBQ] at h
   split at h
   ·obtain ⟨y,k,h1,h2⟩:=xsQ h
    have q:=a1 _ _ _ h1
    have:=a3 _ _ _ _ h2
    simp only [cnt,cnts] at this;omega
   ·obtain ⟨rfl,rfl⟩:=xDQ h
    omega
  ·simp only [x0Q] at h
   obtain ⟨x,k,h1,h2⟩:=xsQ h
   have q:=a2 _ _ _ h1
   have:=a5 _ _ _ _ h2
   omega
  ·simp only [yjQ] at h
   split at h
   ·obtain ⟨y,k,h1,h2⟩:=xsQ h
    have q:=a2 _ _ _ h1
    have:=a5 _ _ _ _ h2
    simp only [cnt,cnts] at this;omega
   ·split at h
    ·obtain ⟨y,k,h1,h2⟩:=xsQ h
     have q:=a2 _ _ _ h1
     have:=a5 _ _ _ _ h2
     simp only [cnt,cnts] at this;omega
    ·obtain ⟨rfl,rfl⟩:=xDQ h
     omega
theorem cn_cond {ws:List W3} {f i:Nat} {t:T} {j:Nat} (h:zPQ ws f i=.ok t j):cnt t+i≤j:=by
 unfold zPQ at h
 obtain ⟨x,k,h1,h2⟩:=xsQ h
 have q:=(cn ws f).2.2.2.1 _ _ _ h1
 split at h2
 ·cases h2
 ·obtain ⟨y,k2,h3,h4⟩:=xsQ h2
  have q2:=(cn ws f).2.2.2.1 _ _ _ h3
  obtain ⟨rfl,rfl⟩:=xDQ h4
  simp only [cnt,cnts];omega
theorem cn_short {ws:List W3} {f i:Nat} {t:T} {j:Nat} (h:ybQ ws f i=.ok t j):cnt t+i≤j:=by
 unfold ybQ at h
 have ax:=(cn ws f).2.2.2.1
 split at h
 ·obtain ⟨g,h⟩:=ypQ h
  obtain ⟨rfl,rfl⟩:=xDQ h
  simp only [cnt,cnts];omega
 ·split at h
  ·obtain ⟨x,k,h1,h2⟩:=xsQ h
   have:=cn_cond h1
   obtain ⟨rfl,rfl⟩:=xDQ h2
   simp only [cnt,cnts];omega
  ·split at h
   ·obtain ⟨rfl,rfl⟩:=xDQ h
    simp only [cnt,cnts];omega
   ·split at h
    ·obtain ⟨rfl,rfl⟩:=xDQ h
     simp only [cnt,cnts];omega
    ·obtain ⟨g,h⟩:=ypQ h
     split at h
     ·obtain ⟨x,k,h1,h2⟩:=xsQ h
      obtain ⟨h3,h4⟩:=xEQ h2
      obtain ⟨h5,h6⟩:=xEQ h4
      obtain ⟨y,k2,h7,h8⟩:=xsQ h6
      have:=ax _ _ _ h1
      have:=ax _ _ _ h7
      obtain ⟨rfl,rfl⟩:=xDQ h8
      simp only [cnt,cnts];omega
     ·obtain ⟨h5,h6⟩:=xEQ h
      obtain ⟨y,k2,h7,h8⟩:=xsQ h6
      have:=ax _ _ _ h7
      obtain ⟨rfl,rfl⟩:=xDQ h8
      simp only [cnt,cnts];omega
def CnS (ws:List W3) (F f:Nat):Prop:=(∀ i t j,xFQ ws F f i=.ok t j→cnt t+i≤j)∧(∀ i t j,ysQ ws F f i=.ok t j→cnt t+i+1≤j)∧(∀ acc i t j,mList ws F f acc i=.ok t j→cnt t+i≤cnts acc+j)
theorem cnS (ws:List W3) (F f:Nat):CnS ws F f:=by
 induction f with
 | zero=>exact ⟨fun _ _ _ h=>by simp [xFQ] at h,fun _ _ _ h=>by simp [ysQ] at h,fun _ _ _ _ h=>by simp [mList] at h⟩
 | succ f ih =>
  obtain ⟨a1,a2,a3⟩:=ih
  have ax:=(cn ws F).2.2.2.1
  refine ⟨fun i t j h=>?_,fun i t j h=>?_,fun acc i t j h=>?_⟩
  ·simp only [xFQ] at h
   split at h
   ·obtain ⟨x,k,h1,h2⟩:=xsQ h
    obtain ⟨y,k2,h3,h4⟩:=xsQ h2
    have:=cn_cond h1
    have:=a2 _ _ _ h3
    split at h4
    ·obtain ⟨z,k3,h5,h6⟩:=xsQ h4
     have:=a2 _ _ _ h5
     obtain ⟨rfl,rfl⟩:=xDQ h6
     simp only [cnt,cnts];omega
    ·obtain ⟨rfl,rfl⟩:=xDQ h4
     simp only [cnt,cnts];omega
   ·split at h
    ·obtain ⟨x,k,h1,h2⟩:=xsQ h
     obtain ⟨y,k2,h3,h4⟩:=xsQ h2
     have:=cn_cond h1
     have:=a2 _ _ _ h3
     obtain ⟨rfl,rfl⟩:=xDQ h4
     simp only [cnt,cnts];omega
    ·split at h
     ·obtain ⟨_,h⟩:=ypQ h
      obtain ⟨_,h⟩:=xEQ h
      obtain ⟨x,k,h1,h2⟩:=xsQ h
      obtain ⟨_,h2⟩:=xEQ h2
      obtain ⟨y,k2,h3,h4⟩:=xsQ h2
      obtain ⟨z,k3,h5,h6⟩:=xsQ h4
      have:=ax _ _ _ h1
      have:=ax _ _ _ h3
      have:=a2 _ _ _ h5
      obtain ⟨rfl,rfl⟩:=xDQ h6
      simp only [cnt,cnts];omega
     ·obtain ⟨x,k,h1,h2⟩:=xsQ h
      obtain ⟨h3,h4⟩:=xEQ h2
      have:=cn_short h1
      obtain ⟨rfl,rfl⟩:=xDQ h4
      omega
  ·simp only [ysQ] at h
   obtain ⟨g,h⟩:=xEQ h
   have:=a3 _ _ _ _ h
   simp only [cnts] at this;omega
  ·simp only [mList] at h
   split at h
   ·obtain ⟨rfl,rfl⟩:=xDQ h
    simp only [cnt];omega
   ·obtain ⟨x,k,h1,h2⟩:=xsQ h
    have:=a1 _ _ _ h1
    have:=a3 _ _ _ _ h2
    rw [cnts_app] at this
    simp only [cnts] at this;omega
theorem cn_decl {ws:List W3} {i:Nat} {t:T} {j:Nat} (h:mDecl ws i=.ok t j):cnt t+i≤j:=by
 unfold mDecl at h
 split at h
 ·obtain ⟨_,h⟩:=ypQ h
  obtain ⟨g,h⟩:=xEQ h
  obtain ⟨rfl,rfl⟩:=xDQ h
  simp only [cnt,cnts];omega
 ·obtain ⟨_,h⟩:=xEQ h
  obtain ⟨_,h⟩:=ypQ h
  obtain ⟨_,h⟩:=xEQ h
  split at h
  ·obtain ⟨_,h⟩:=xEQ h
   obtain ⟨g,h⟩:=xEQ h
   obtain ⟨rfl,rfl⟩:=xDQ h
   simp only [cnt,cnts];omega
  ·obtain ⟨_,h⟩:=ypQ h
   obtain ⟨_,h⟩:=xEQ h
   obtain ⟨g,h⟩:=xEQ h
   obtain ⟨rfl,rfl⟩:=xDQ h
   simp only [cnt,cnts];omega
theorem cn_all {ws:List W3} {F:Nat} {ds:List T} (f:Nat):∀ (acc:List T) (i:Nat) (t:T) (j:Nat),i≤ws.length→mAll ws F ds f acc i=.ok t j→cnt t+i≤2+cnts ds+cnts acc+ws.length:=by
 induction f with
 | zero=>intro acc i t j hi h;simp [mAll] at h
 | succ f ih =>
  intro acc i t j hi h
  simp only [mAll] at h
  split at h
  ·obtain ⟨x,k,h1,h2⟩:=xsQ h
   have:=(cnS ws F F).1 _ _ _ h1
   have q:=(advS ws F F).1 _ _ _ h1
   have:=ih _ _ _ _ q.2 h2
   rw [cnts_app] at this
   simp only [cnts] at this
   omega
  ·obtain ⟨rfl,rfl⟩:=xDQ h
   simp only [cnt,cnts_app,cnts]
   omega
theorem cn_prog {ws:List W3} {F:Nat} (f:Nat):∀ (ds:List T) (i:Nat) (t:T) (j:Nat),i≤ws.length→mProg ws F f ds i=.ok t j→cnt t+i≤2+cnts ds+ws.length:=by
 induction f with
 | zero=>intro ds i t j hi h;simp [mProg] at h
 | succ f ih =>
  intro ds i t j hi h
  simp only [mProg] at h
  split at h
  ·obtain ⟨x,k,h1,h2⟩:=xsQ h
   have:=cn_decl h1
   have q:=adv_decl h1
   have:=ih _ _ _ _ q.2 h2
   rw [cnts_app] at this
   simp only [cnts] at this
   omega
  ·have:=cn_all F _ _ _ _ hi h
   simp only [cnts] at this
   omega
theorem sd_of {w1:World} {base:Nat} {v:Value} {ws:List W3} {o:Obj} (ho:Owns w1 base v ws) (hn:ws.length≤1500):∃ a cap,v=.slice a ws.length cap ∧
    Sd ((w1.alloc o).alloc (.cells #[v,.int .i64 0,.bool false] 127)) (w1.heap.size+1) a cap ws (0,false):=by
 have hz:(w1.alloc o).heap.size=w1.heap.size+1:=by simp
 obtain ⟨a,cap,rfl⟩:=ho.form
 refine ⟨a,cap,rfl,?_,?_,hn⟩
 ·have:=heap_alloc_new (w1.alloc o) (.cells #[.slice a ws.length cap,.int .i64 0,.bool false] 127)
  rw [hz] at this
  exact this
 ·by_cases h0:ws.length=0
  ·exact .inl (List.eq_nil_of_length_eq_zero h0)
  ·obtain ⟨g,cap',hv⟩:=ho.some h0
   obtain ⟨ha,_,_⟩:a=some ⟨g,0,none⟩∧True∧cap=cap':=by simp at hv;exact ⟨hv.1,trivial,hv.2⟩
   subst ha
   have hl:=lies_of_row ho
   have hg:base≤g∧g<w1.heap.size:=World.ownsRow.lt ho g rfl
   refine .inr ⟨g,rfl,by omega,hl.keep (.inr ?_)⟩
   rw [Lib.alloc_old _ _ _ (by rw [hz];omega),Lib.alloc_old _ _ _ hg.2]
theorem out_cells_o {w:World} {p q:Nat} {u0 u1 u2 u3 v0 v1:Value} (o:Obj) (hp:w.heap[p]?=some (.cells #[u0,u1,u2,u3] 31 (0,0))) (hq:w.heap[q]?=some (.cells #[v0,v1] 85 (0,0))) (hpq:p≠q) (a b c d x y:Value) :
    ((put2 (put4 w p a b c d) q x y).alloc o).cell? ⟨p,0,none⟩=some a∧((put2 (put4 w p a b c d) q x y).alloc o).cell? ⟨p,1,none⟩=some b∧((put2 (put4 w p a b c d) q x y).alloc o).cell? ⟨p,2,none⟩=some c∧((put2 (put4 w p a b c d) q x y).alloc o).cell? ⟨p,3,none⟩=some d ∧
    ((put2 (put4 w p a b c d) q x y).alloc o).cell? ⟨q,0,none⟩=some x∧((put2 (put4 w p a b c d) q x y).alloc o).cell? ⟨q,1,none⟩=some y:=by
 have hz:(put2 (put4 w p a b c d) q x y).heap.size=w.heap.size:=by rw [put2_size,ySQ]
 have h1:=(Lib.alloc_old (put2 (put4 w p a b c d) q x y) o p (by rw [hz];exact (Array.getElem?_eq_some_iff.1 hp).1)).trans ((put2_other x y hpq).trans (zLQ hp a b c d))
 have h2:=(Lib.alloc_old (put2 (put4 w p a b c d) q x y) o q (by rw [hz];exact (Array.getElem?_eq_some_iff.1 hq).1)).trans (put2_at ((xLQ a b c d (fun e=>hpq e.symm)).trans hq) x y)
 obtain ⟨a0,a1,a2,a3,_⟩:=xcQ h1
 obtain ⟨b0,b1,_⟩:=two_of h2
 exact ⟨a0,a1,a2,a3,b0,b1⟩
theorem out_below {B:Nat} {a w:World} (h:Below B a w) {p q:Nat} (hp:B≤p) (hq:B≤q) (hB:B≤w.heap.size) (v0 v1 v2 v3 u0 u1:Value) (o:Obj):Below B a ((put2 (put4 w p v0 v1 v2 v3) q u0 u1).alloc o) :=
 (put2_below (put4_below h hp v0 v1 v2 v3) hq u0 u1).alloc (by rw [put2_size,ySQ];exact hB) o
theorem sreader_all {rb:Nat} {a:Option Addr} {cap:Nat} {ws:List W3} {F:Nat} (he:Env ws) (hF:5 * ws.length+3≤F):SProg rb a cap ws F :=
 have hE:SExpr rb a cap ws F:=(sexpr_all he F F (Nat.le_refl _)).2.2
 sprog_all he hF (sstmt_all he hF hE F F (Nat.le_refl _)).1
theorem sparse_fault (s:ByteArray) (w:World) (hs:s.size≤maxLen) (hc:(xkQ s).2.1≠0):Calls Tryz.prog 64 #[.string s] w (Parsed s w):=by
 have hP:yTQ s=(.node 0 nil_ 0 [],(xkQ s).2.1,(xkQ s).2.2):=by unfold yTQ;rw [if_pos hc]
 have hW:=fun w=>sWords_any s w hs
 generalize xkQ s=x at hP hW hc
 obtain ⟨ws,c,d⟩:=x
 have HW:=xaQ hW
 have HP:=xaQ hP
 have hc':(c != 0)=true:=by simpa using hc
 clear hP hW hc hs
 go_enter Tryz.func64,Tryz.ntmps64
 go_wp2_with fail
 refine (HW.out _).mono ?_
 rintro e w1 ⟨v,rfl,_,b1⟩
 have P1:=(b1.block w.heap.size (by first | (simp;omega) | simp)).trans ((Lib.alloc_old _ _ _ (by simp)).trans (heap_alloc_new w _))
 have Q1:w1.heap[w.heap.size+1]?=some (.cells #[.int .i64 0,.int .i64 0] 85 (0,0)):=(b1.block (w.heap.size+1) (by first | (simp;omega) | simp)).trans (by have:=heap_alloc_new (w.alloc (.cells #[.int .i64 0,.string ⟨#[]⟩,.int .i64 0,.slice none 0 0] 31)) (.cells #[.int .i64 0,.int .i64 0] 85);simpa using this)
 have B1:Hid (Below w.heap.size w w1):=(((Below.refl _ _).alloc (Nat.le_refl _) _).alloc (by simp) _).trans (b1.mono (by first | (simp;omega) | simp))
 have z1:w.heap.size+1<w1.heap.size:=(Array.getElem?_eq_some_iff.1 Q1).1
 obtain ⟨c0,c1,c2,c3,f0,f1,f2,f3⟩:=xcQ P1
 obtain ⟨d0,d1,e0,e1⟩:=two_of Q1
 have HPP:=xaQ P1
 have HQ:=xaQ Q1
 have zp:w.heap.size<w1.heap.size:=by omega
 clear P1 Q1 b1
 go_wp2
 go_region
 all_goals
  go_wp2
  obtain ⟨q0,q1,q2,q3,r0,r1⟩:=out_cells_o (.cells #[.int .i64 c,.int .i64 d] 85) HPP.out HQ.out (by omega) (.int .i64 0) (.string ⟨#[]⟩) (.int .i64 0) (.slice none 0 0) (.int .i64 c) (.int .i64 d)
  exact bodyPost_ret (v:=.tuple #[(A.node 0 ⟨#[]⟩ 0 none 0 []).val,.agg #[.int .i64 c,.int .i64 d]]) (by simp [results,Tryz.results64,go_sem,q0,q1,q2,q3,r0,r1,A.val]) rfl ⟨_,by rw [HP.out],by rw [HP.out,erase0];rfl,Sits.leaf _ _ _ (by decide),New.leaf _ _ _ _ _ _,(out_below B1.out (Nat.le_refl _) (Nat.le_succ _) (by omega) _ _ _ _ _ _ _).drew⟩
theorem sparse_no (s:ByteArray) (w:World) (hs:s.size≤maxLen) (hc:(xkQ s).2.1=0) {p:Nat} (hr:mProg (xkQ s).1 (fuelI (xkQ s).1) (fuelI (xkQ s).1) [] 0=.no p):Calls Tryz.prog 64 #[.string s] w (Parsed s w):=by
 have hW:=fun w=>sWords_any s w hs
 have he:=words_env s
 have hE:=fun rb a cap w h=>sreader_all (rb:=rb) (a:=a) (cap:=cap) he (show 5 * (xkQ s).1.length+3≤fuelI (xkQ s).1 by unfold fuelI;omega) w h
 have hfew:=he.few
 have hP:yTQ s=(.node 0 nil_ 0 [],4,placeI (xkQ s).1 p s.size):=by unfold yTQ;rw [if_neg (by rw [hc];decide),hr]
 simp only [hr] at hE
 clear hr
 generalize xkQ s=x at hP hW hc hE hfew
 obtain ⟨ws,c,d⟩:=x
 simp only at hc hE hfew
 subst hc
 have HW:=xaQ hW
 have HP:=xaQ hP
 have HE:=xaQ hE
 unfold maxLen at hs
 clear hP hW hE he
 go_enter Tryz.func64,Tryz.ntmps64
 go_wp2_with fail
 refine (HW.out _).mono ?_
 rintro e w1 ⟨v,rfl,ho,b1⟩
 have P1:=(b1.block w.heap.size (by first | (simp;omega) | simp)).trans ((Lib.alloc_old _ _ _ (by simp)).trans (heap_alloc_new w _))
 have Q1:w1.heap[w.heap.size+1]?=some (.cells #[.int .i64 0,.int .i64 0] 85 (0,0)):=(b1.block (w.heap.size+1) (by first | (simp;omega) | simp)).trans (by have:=heap_alloc_new (w.alloc (.cells #[.int .i64 0,.string ⟨#[]⟩,.int .i64 0,.slice none 0 0] 31)) (.cells #[.int .i64 0,.int .i64 0] 85);simpa using this)
 have B1:Hid (Below w.heap.size w w1):=(((Below.refl _ _).alloc (Nat.le_refl _) _).alloc (by simp) _).trans (b1.mono (by first | (simp;omega) | simp))
 have z1:w.heap.size+1<w1.heap.size:=(Array.getElem?_eq_some_iff.1 Q1).1
 obtain ⟨a,cap,rfl,hsd⟩:=sd_of (o:=.cells #[.int .i64 0,.int .i64 d] 85) ho hfew
 have P2:=xaQ ((Lib.alloc_old (w1.alloc (.cells #[.int .i64 0,.int .i64 d] 85)) (.cells #[.slice a ws.length cap,.int .i64 0,.bool false] 127) w.heap.size (by simp;omega)).trans ((Lib.alloc_old _ _ _ (by omega)).trans P1))
 have Q2:=xaQ ((Lib.alloc_old (w1.alloc (.cells #[.int .i64 0,.int .i64 d] 85)) (.cells #[.slice a ws.length cap,.int .i64 0,.bool false] 127) (w.heap.size+1) (by simp;omega)).trans ((Lib.alloc_old _ _ _ (by omega)).trans Q1))
 have B2:Hid (Below w.heap.size w ((w1.alloc (.cells #[.int .i64 0,.int .i64 d] 85)).alloc (.cells #[.slice a ws.length cap,.int .i64 0,.bool false] 127))):=(B1.out.alloc (by omega) _).alloc (by simp;omega) _
 have RD:=xaQ hsd
 clear P1 Q1 b1 ho hsd B1
 go_wp2_with fail
 refine (HE.out _ a cap _ RD.out).mono ?_
 rintro e w3 ⟨x,st3,rfl,hsx,hnx,r3,s3,hr3⟩
 have P3:=s3.at P2.out (by omega)
 have Q3:=s3.at Q2.out (by omega)
 have B3:Hid (Below w.heap.size w w3):=B2.out.trans ((s3.below (by simp)).mono (by omega))
 have z3:w1.heap.size+2≤w3.heap.size:=by have:=s3.size;simp at this;omega
 have e3:=hr3.no
 subst e3
 obtain ⟨xk,xs,xm,xa,xc,xkk⟩:=x
 obtain ⟨k0,k1,k2,_,_⟩:=r3.cells
 simp only at k1 k2
 have RD3:=xaQ r3
 have zp:w.heap.size<w3.heap.size:=by omega
 have zq:w.heap.size+1<w3.heap.size:=by omega
 have zr:w1.heap.size+1<w3.heap.size:=by omega
 obtain ⟨c0,c1,c2,c3,f0,f1,f2,f3⟩:=xcQ P3
 obtain ⟨d0,d1,e0,e1⟩:=two_of Q3
 have HPP:=xaQ P3
 have HQ:=xaQ Q3
 clear P3 Q3 hsx hnx r3 s3 hr3 P2 Q2 B2 RD
 simp only [A.val]
 by_cases hl:p<ws.length
 ·obtain ⟨y,hy⟩:∃ y,ws[p]?=some y:=⟨_,List.getElem?_eq_getElem hl⟩
  obtain ⟨g,hg,_,_,d2⟩:=RD3.out.word hy
  subst hg
  have HPL:=xaQ (show placeI ws p s.size=y.a by unfold placeI;rw [hy])
  have hl':decide ((p:Int)<(ws.length:Int))=true:=by simp;omega
  have i0:(0:Int)≤(p:Int):=by omega
  have i1:(p:Int)<(ws.length:Int):=by omega
  have zg:g<w3.heap.size:=World.block_lt_of_cell? w3 _ d2
  clear hy RD3
  go_wp2
  obtain ⟨q0,q1,q2,q3,r0,r1⟩:=out_cells_o (.cells #[.int .i64 xk,.string xs,.int .i64 xm,.slice xa xkk.length xc] 31) HPP.out HQ.out (by omega) (.int .i64 0) (.string ⟨#[]⟩) (.int .i64 0) (.slice none 0 0) (.int .i64 4) (.int .i64 y.a)
  exact bodyPost_ret (v:=.tuple #[(A.node 0 ⟨#[]⟩ 0 none 0 []).val,.agg #[.int .i64 4,.int .i64 y.a]]) (by simp [results,Tryz.results64,go_sem,q0,q1,q2,q3,r0,r1,A.val]) rfl ⟨_,by rw [HP.out,HPL.out],by rw [HP.out,erase0];rfl,Sits.leaf _ _ _ (by decide),New.leaf _ _ _ _ _ _,out_below B3.out (Nat.le_refl _) (Nat.le_succ _) (by omega) _ _ _ _ _ _ _⟩
 ·have HPL:=xaQ (show placeI ws p s.size=s.size by unfold placeI;rw [List.getElem?_eq_none (by omega)])
  have hl':decide ((p:Int)<(ws.length:Int))=false:=by simp;omega
  clear RD3
  go_wp2
  obtain ⟨q0,q1,q2,q3,r0,r1⟩:=out_cells_o (.cells #[.int .i64 xk,.string xs,.int .i64 xm,.slice xa xkk.length xc] 31) HPP.out HQ.out (by omega) (.int .i64 0) (.string ⟨#[]⟩) (.int .i64 0) (.slice none 0 0) (.int .i64 4) (.int .i64 s.size)
  exact bodyPost_ret (v:=.tuple #[(A.node 0 ⟨#[]⟩ 0 none 0 []).val,.agg #[.int .i64 4,.int .i64 s.size]]) (by simp [results,Tryz.results64,go_sem,q0,q1,q2,q3,r0,r1,A.val]) rfl ⟨_,by rw [HP.out,HPL.out],by rw [HP.out,erase0];rfl,Sits.leaf _ _ _ (by decide),New.leaf _ _ _ _ _ _,out_below B3.out (Nat.le_refl _) (Nat.le_succ _) (by omega) _ _ _ _ _ _ _⟩
theorem sparse_large (s:ByteArray) (w:World) (hs:s.size≤maxLen) (hc:(xkQ s).2.1=0) {t:T} {j:Nat} (hr:mProg (xkQ s).1 (fuelI (xkQ s).1) (fuelI (xkQ s).1) [] 0=.ok t j) (hd:¬ (dep t≤24∧cnt t≤500)):Calls Tryz.prog 64 #[.string s] w (Parsed s w):=by
 have hW:=fun w=>sWords_any s w hs
 have he:=words_env s
 have hE:=fun rb a cap w h=>sreader_all (rb:=rb) (a:=a) (cap:=cap) he (show 5 * (xkQ s).1.length+3≤fuelI (xkQ s).1 by unfold fuelI;omega) w h
 have hfew:=he.few
 have hP:yTQ s=(.node 0 nil_ 0 [],5,0):=by unfold yTQ;rw [if_neg (by rw [hc];decide),hr];simp only;rw [if_neg hd]
 have hcn:cnt t≤1502:=by have:=cn_prog _ _ _ _ _ (Nat.zero_le _) hr;simp only [cnts] at this;omega
 simp only [hr] at hE
 clear hr
 generalize xkQ s=x at hP hW hc hE hfew
 obtain ⟨ws,c,d⟩:=x
 simp only at hc hE hfew
 subst hc
 have HW:=xaQ hW
 have HP:=xaQ hP
 have HE:=xaQ hE
 unfold maxLen at hs
 clear hP hW hE he
 go_enter Tryz.func64,Tryz.ntmps64
 go_wp2_with fail
 refine (HW.out _).mono ?_
 rintro e w1 ⟨v,rfl,ho,b1⟩
 have P1:=(b1.block w.heap.size (by first | (simp;omega) | simp)).trans ((Lib.alloc_old _ _ _ (by simp)).trans (heap_alloc_new w _))
 have Q1:w1.heap[w.heap.size+1]?=some (.cells #[.int .i64 0,.int .i64 0] 85 (0,0)):=(b1.block (w.heap.size+1) (by first | (simp;omega) | simp)).trans (by have:=heap_alloc_new (w.alloc (.cells #[.int .i64 0,.string ⟨#[]⟩,.int .i64 0,.slice none 0 0] 31)) (.cells #[.int .i64 0,.int .i64 0] 85);simpa using this)
 have B1:Hid (Below w.heap.size w w1):=(((Below.refl _ _).alloc (Nat.le_refl _) _).alloc (by simp) _).trans (b1.mono (by first | (simp;omega) | simp))
 have z1:w.heap.size+1<w1.heap.size:=(Array.getElem?_eq_some_iff.1 Q1).1
 obtain ⟨a,cap,rfl,hsd⟩:=sd_of (o:=.cells #[.int .i64 0,.int .i64 d] 85) ho hfew
 have P2:=xaQ ((Lib.alloc_old (w1.alloc (.cells #[.int .i64 0,.int .i64 d] 85)) (.cells #[.slice a ws.length cap,.int .i64 0,.bool false] 127) w.heap.size (by simp;omega)).trans ((Lib.alloc_old _ _ _ (by omega)).trans P1))
 have Q2:=xaQ ((Lib.alloc_old (w1.alloc (.cells #[.int .i64 0,.int .i64 d] 85)) (.cells #[.slice a ws.length cap,.int .i64 0,.bool false] 127) (w.heap.size+1) (by simp;omega)).trans ((Lib.alloc_old _ _ _ (by omega)).trans Q1))
 have B2:Hid (Below w.heap.size w ((w1.alloc (.cells #[.int .i64 0,.int .i64 d] 85)).alloc (.cells #[.slice a ws.length cap,.int .i64 0,.bool false] 127))):=(B1.out.alloc (by omega) _).alloc (by simp;omega) _
 have RD:=xaQ hsd
 clear P1 Q1 b1 ho hsd B1
 go_wp2_with fail
 refine (HE.out _ a cap _ RD.out).mono ?_
 rintro e w3 ⟨x,st3,rfl,hsx,hnx,r3,s3,hr3⟩
 have P3:=s3.at P2.out (by omega)
 have Q3:=s3.at Q2.out (by omega)
 have B3:Hid (Below w.heap.size w w3):=B2.out.trans ((s3.below (by simp)).mono (by omega))
 have z3:w1.heap.size+2≤w3.heap.size:=by have:=s3.size;simp at this;omega
 have ht:=hr3.ok.1
 have e3:=hr3.ok.2
 subst e3
 have hsx4:=Sits.stay (w':=w3.alloc (.cells x.cells.toArray 31)) x (fun q hq=>Lib.alloc_old _ _ _ (Sits.lt x hsx q hq)) hsx
 have hn1:New (w1.heap.size+2) x:=hnx.mono (by simp)
 obtain ⟨xk,xs,xm,xa,xc,xkk⟩:=x
 simp only [A.cells] at hsx4
 have hlen:xkk.length≤maxLen:=by simp only [Sits] at hsx;exact hsx.2.1
 have hte:T.node xk xs xm (xmQ xkk)=t:=by rw [← ht];simp only [A.erase]
 have hC:=fun (W:World) (hk:Kids W 0 xa (xmQ xkk))=>sCount_ok (.node xk xs xm (xmQ xkk)) xa xc W (by rw [xzQ];exact hlen) (by rw [hte];omega) hk
 have hD:=fun (W:World) (hk:Kids W 0 xa (xmQ xkk))=>sDepth_ok (.node xk xs xm (xmQ xkk)) xa xc W (by rw [xzQ];exact hlen) (by rw [hte];omega) hk
 rw [hte] at hC hD
 simp only [xzQ] at hC hD
 have HC:=xaQ hC
 have HD:=xaQ hD
 have HK:=xaQ (Sits.lies (lo:=0) _ hsx4 (fun _ _=>Nat.zero_le _))
 have HT:=xaQ ht
 have HSX:=xaQ hsx4
 have HN:=xaQ hn1
 obtain ⟨k0,k1,k2,_,_⟩:=r3.cells
 simp only at k1 k2
 have zp:w.heap.size<w3.heap.size:=by omega
 have zq:w.heap.size+1<w3.heap.size:=by omega
 have zr:w1.heap.size+1<w3.heap.size:=by omega
 have P4:=xaQ ((Lib.alloc_old w3 (.cells #[.int .i64 xk,.string xs,.int .i64 xm,.slice xa xkk.length xc] 31) w.heap.size zp).trans P3)
 have Q4:=xaQ ((Lib.alloc_old w3 (.cells #[.int .i64 xk,.string xs,.int .i64 xm,.slice xa xkk.length xc] 31) (w.heap.size+1) zq).trans Q3)
 have X4:=xaQ (heap_alloc_new w3 (.cells #[.int .i64 xk,.string xs,.int .i64 xm,.slice xa xkk.length xc] 31))
 have B4:=xaQ (B3.out.alloc (by omega) (.cells #[.int .i64 xk,.string xs,.int .i64 xm,.slice xa xkk.length xc] 31))
 generalize cnt t=n at HC hcn hd
 generalize dep t=m at HD hd
 clear P3 Q3 hsx hnx r3 s3 hr3 B3 P2 Q2 B2 RD ht hsx4 hn1 hlen hte hC hD
 simp only [A.val]
 go_wp2_with fail
 refine (HC.out _ HK.out).mono ?_
 rintro e w5 ⟨rfl,b5⟩
 have P5:=(b5.block w.heap.size (Array.getElem?_eq_some_iff.1 P4.out).1).trans P4.out
 have Q5:=(b5.block (w.heap.size+1) (Array.getElem?_eq_some_iff.1 Q4.out).1).trans Q4.out
 have X5:=(b5.block w3.heap.size (Array.getElem?_eq_some_iff.1 X4.out).1).trans X4.out
 have B5:=xaQ (below_step' B4.out b5 (by simp;omega))
 have HS5:=xaQ (Sits.stay _ (fun q hq=>b5.block q (Sits.lt _ HSX.out q hq)) HSX.out)
 have HP5:=xaQ P5
 have HQ5:=xaQ Q5
 have HX5:=xaQ X5
 clear P5 Q5 X5 b5 P4 Q4 X4 B4 HSX HC HK k0 k1 k2
 by_cases hn5:500<n
 ·have hn6:decide ((500:Int)<(n:Int))=true:=by simp;omega
  obtain ⟨c0,c1,c2,c3,f0,f1,f2,f3⟩:=xcQ HP5.out
  obtain ⟨d0,d1,e0,e1⟩:=two_of HQ5.out
  have HPP:=HP5
  have HQ:=HQ5
  clear HD HP5 HQ5 hd
  go_wp2
  obtain ⟨q0,q1,q2,q3,r0,r1⟩:=out_cells HPP.out HQ.out (by omega) (.int .i64 0) (.string ⟨#[]⟩) (.int .i64 0) (.slice none 0 0) (.int .i64 5) (.int .i64 0)
  exact bodyPost_ret (v:=.tuple #[(A.node 0 ⟨#[]⟩ 0 none 0 []).val,.agg #[.int .i64 5,.int .i64 0]]) (by simp [results,Tryz.results64,go_sem,q0,q1,q2,q3,r0,r1,A.val]) rfl ⟨_,by rw [HP.out],by rw [HP.out,erase0];rfl,Sits.leaf _ _ _ (by decide),New.leaf _ _ _ _ _ _,put2_below (put4_below B5.out (Nat.le_refl _) _ _ _ _) (Nat.le_succ _) _ _⟩
 have hm:24<m:=by omega
 have hm5:decide ((24:Int)<(m:Int))=true:=by simp;omega
 clear hd
 have hn5:decide ((500:Int)<(n:Int))=false:=by simp;omega
 have HK5:=xaQ (Sits.lies (lo:=0) _ HS5.out (fun _ _=>Nat.zero_le _))
 obtain ⟨x0,x1,x2,x3,_⟩:=xcQ HX5.out
 go_wp2_with fail
 refine (HD.out _ HK5.out).mono ?_
 rintro e w6 ⟨rfl,b6⟩
 have P6:=(b6.block w.heap.size (Array.getElem?_eq_some_iff.1 HP5.out).1).trans HP5.out
 have Q6:=(b6.block (w.heap.size+1) (Array.getElem?_eq_some_iff.1 HQ5.out).1).trans HQ5.out
 have X6:=(b6.block w3.heap.size (Array.getElem?_eq_some_iff.1 HX5.out).1).trans HX5.out
 have B6:=xaQ (below_step' B5.out b6 (by have:=(Array.getElem?_eq_some_iff.1 HP5.out).1;omega))
 have HS6:=xaQ (Sits.stay _ (fun q hq=>b6.block q (Sits.lt _ HS5.out q hq)) HS5.out)
 obtain ⟨c0,c1,c2,c3,f0,f1,f2,f3⟩:=xcQ P6
 obtain ⟨d0,d1,e0,e1⟩:=two_of Q6
 have HPP:=xaQ P6
 have HQ:=xaQ Q6
 have HX6:=xaQ X6
 clear P6 Q6 X6 b6 HD HK5 x0 x1 x2 x3
 go_wp2
 obtain ⟨q0,q1,q2,q3,r0,r1⟩:=out_cells HPP.out HQ.out (by omega) (.int .i64 0) (.string ⟨#[]⟩) (.int .i64 0) (.slice none 0 0) (.int .i64 5) (.int .i64 0)
 exact bodyPost_ret (v:=.tuple #[(A.node 0 ⟨#[]⟩ 0 none 0 []).val,.agg #[.int .i64 5,.int .i64 0]]) (by simp [results,Tryz.results64,go_sem,q0,q1,q2,q3,r0,r1,A.val]) rfl ⟨_,by rw [HP.out],by rw [HP.out,erase0];rfl,Sits.leaf _ _ _ (by decide),New.leaf _ _ _ _ _ _,put2_below (put4_below B6.out (Nat.le_refl _) _ _ _ _) (Nat.le_succ _) _ _⟩
theorem sparse_small (s:ByteArray) (w:World) (hs:s.size≤maxLen) (hc:(xkQ s).2.1=0) {t:T} {j:Nat} (hr:mProg (xkQ s).1 (fuelI (xkQ s).1) (fuelI (xkQ s).1) [] 0=.ok t j) (hd:dep t≤24∧cnt t≤500):Calls Tryz.prog 64 #[.string s] w (Parsed s w):=by
 have hW:=fun w=>sWords_any s w hs
 have he:=words_env s
 have hE:=fun rb a cap w h=>sreader_all (rb:=rb) (a:=a) (cap:=cap) he (show 5 * (xkQ s).1.length+3≤fuelI (xkQ s).1 by unfold fuelI;omega) w h
 have hfew:=he.few
 have hP:yTQ s=(t,0,0):=by unfold yTQ;rw [if_neg (by rw [hc];decide),hr];simp only;rw [if_pos hd]
 have hcn:cnt t≤1502:=by have:=cn_prog _ _ _ _ _ (Nat.zero_le _) hr;simp only [cnts] at this;omega
 simp only [hr] at hE
 clear hr
 generalize xkQ s=x at hP hW hc hE hfew
 obtain ⟨ws,c,d⟩:=x
 simp only at hc hE hfew
 subst hc
 have HW:=xaQ hW
 have HP:=xaQ hP
 have HE:=xaQ hE
 unfold maxLen at hs
 clear hP hW hE he
 go_enter Tryz.func64,Tryz.ntmps64
 go_wp2_with fail
 refine (HW.out _).mono ?_
 rintro e w1 ⟨v,rfl,ho,b1⟩
 have P1:=(b1.block w.heap.size (by first | (simp;omega) | simp)).trans ((Lib.alloc_old _ _ _ (by simp)).trans (heap_alloc_new w _))
 have Q1:w1.heap[w.heap.size+1]?=some (.cells #[.int .i64 0,.int .i64 0] 85 (0,0)):=(b1.block (w.heap.size+1) (by first | (simp;omega) | simp)).trans (by have:=heap_alloc_new (w.alloc (.cells #[.int .i64 0,.string ⟨#[]⟩,.int .i64 0,.slice none 0 0] 31)) (.cells #[.int .i64 0,.int .i64 0] 85);simpa using this)
 have B1:Hid (Below w.heap.size w w1):=(((Below.refl _ _).alloc (Nat.le_refl _) _).alloc (by simp) _).trans (b1.mono (by first | (simp;omega) | simp))
 have z1:w.heap.size+1<w1.heap.size:=(Array.getElem?_eq_some_iff.1 Q1).1
 obtain ⟨a,cap,rfl,hsd⟩:=sd_of (o:=.cells #[.int .i64 0,.int .i64 d] 85) ho hfew
 have P2:=xaQ ((Lib.alloc_old (w1.alloc (.cells #[.int .i64 0,.int .i64 d] 85)) (.cells #[.slice a ws.length cap,.int .i64 0,.bool false] 127) w.heap.size (by simp;omega)).trans ((Lib.alloc_old _ _ _ (by omega)).trans P1))
 have Q2:=xaQ ((Lib.alloc_old (w1.alloc (.cells #[.int .i64 0,.int .i64 d] 85)) (.cells #[.slice a ws.length cap,.int .i64 0,.bool false] 127) (w.heap.size+1) (by simp;omega)).trans ((Lib.alloc_old _ _ _ (by omega)).trans Q1))
 have B2:Hid (Below w.heap.size w ((w1.alloc (.cells #[.int .i64 0,.int .i64 d] 85)).alloc (.cells #[.slice a ws.length cap,.int .i64 0,.bool false] 127))):=(B1.out.alloc (by omega) _).alloc (by simp;omega) _
 have RD:=xaQ hsd
 clear P1 Q1 b1 ho hsd B1
 go_wp2_with fail
 refine (HE.out _ a cap _ RD.out).mono ?_
 rintro e w3 ⟨x,st3,rfl,hsx,hnx,r3,s3,hr3⟩
 have P3:=s3.at P2.out (by omega)
 have Q3:=s3.at Q2.out (by omega)
 have B3:Hid (Below w.heap.size w w3):=B2.out.trans ((s3.below (by simp)).mono (by omega))
 have z3:w1.heap.size+2≤w3.heap.size:=by have:=s3.size;simp at this;omega
 have ht:=hr3.ok.1
 have e3:=hr3.ok.2
 subst e3
 have hsx4:=Sits.stay (w':=w3.alloc (.cells x.cells.toArray 31)) x (fun q hq=>Lib.alloc_old _ _ _ (Sits.lt x hsx q hq)) hsx
 have hn1:New (w1.heap.size+2) x:=hnx.mono (by simp)
 obtain ⟨xk,xs,xm,xa,xc,xkk⟩:=x
 simp only [A.cells] at hsx4
 have hlen:xkk.length≤maxLen:=by simp only [Sits] at hsx;exact hsx.2.1
 have hte:T.node xk xs xm (xmQ xkk)=t:=by rw [← ht];simp only [A.erase]
 have hC:=fun (W:World) (hk:Kids W 0 xa (xmQ xkk))=>sCount_ok (.node xk xs xm (xmQ xkk)) xa xc W (by rw [xzQ];exact hlen) (by rw [hte];omega) hk
 have hD:=fun (W:World) (hk:Kids W 0 xa (xmQ xkk))=>sDepth_ok (.node xk xs xm (xmQ xkk)) xa xc W (by rw [xzQ];exact hlen) (by rw [hte];omega) hk
 rw [hte] at hC hD
 simp only [xzQ] at hC hD
 have HC:=xaQ hC
 have HD:=xaQ hD
 have HK:=xaQ (Sits.lies (lo:=0) _ hsx4 (fun _ _=>Nat.zero_le _))
 have HT:=xaQ ht
 have HSX:=xaQ hsx4
 have HN:=xaQ hn1
 obtain ⟨k0,k1,k2,_,_⟩:=r3.cells
 simp only at k1 k2
 have zp:w.heap.size<w3.heap.size:=by omega
 have zq:w.heap.size+1<w3.heap.size:=by omega
 have zr:w1.heap.size+1<w3.heap.size:=by omega
 have P4:=xaQ ((Lib.alloc_old w3 (.cells #[.int .i64 xk,.string xs,.int .i64 xm,.slice xa xkk.length xc] 31) w.heap.size zp).trans P3)
 have Q4:=xaQ ((Lib.alloc_old w3 (.cells #[.int .i64 xk,.string xs,.int .i64 xm,.slice xa xkk.length xc] 31) (w.heap.size+1) zq).trans Q3)
 have X4:=xaQ (heap_alloc_new w3 (.cells #[.int .i64 xk,.string xs,.int .i64 xm,.slice xa xkk.length xc] 31))
 have B4:=xaQ (B3.out.alloc (by omega) (.cells #[.int .i64 xk,.string xs,.int .i64 xm,.slice xa xkk.length xc] 31))
 generalize cnt t=n at HC hcn hd
 generalize dep t=m at HD hd
 clear P3 Q3 hsx hnx r3 s3 hr3 B3 P2 Q2 B2 RD ht hsx4 hn1 hlen hte hC hD
 simp only [A.val]
 go_wp2_with fail
 refine (HC.out _ HK.out).mono ?_
 rintro e w5 ⟨rfl,b5⟩
 have P5:=(b5.block w.heap.size (Array.getElem?_eq_some_iff.1 P4.out).1).trans P4.out
 have Q5:=(b5.block (w.heap.size+1) (Array.getElem?_eq_some_iff.1 Q4.out).1).trans Q4.out
 have X5:=(b5.block w3.heap.size (Array.getElem?_eq_some_iff.1 X4.out).1).trans X4.out
 have B5:=xaQ (below_step' B4.out b5 (by simp;omega))
 have HS5:=xaQ (Sits.stay _ (fun q hq=>b5.block q (Sits.lt _ HSX.out q hq)) HSX.out)
 have HP5:=xaQ P5
 have HQ5:=xaQ Q5
 have HX5:=xaQ X5
 clear P5 Q5 X5 b5 P4 Q4 X4 B4 HSX HC HK k0 k1 k2
 have hm5:decide ((24:Int)<(m:Int))=false:=by simp;omega
 have hn5:decide ((500:Int)<(n:Int))=false:=by simp;omega
 have HK5:=xaQ (Sits.lies (lo:=0) _ HS5.out (fun _ _=>Nat.zero_le _))
 obtain ⟨x0,x1,x2,x3,_⟩:=xcQ HX5.out
 go_wp2_with fail
 refine (HD.out _ HK5.out).mono ?_
 rintro e w6 ⟨rfl,b6⟩
 have P6:=(b6.block w.heap.size (Array.getElem?_eq_some_iff.1 HP5.out).1).trans HP5.out
 have Q6:=(b6.block (w.heap.size+1) (Array.getElem?_eq_some_iff.1 HQ5.out).1).trans HQ5.out
 have X6:=(b6.block w3.heap.size (Array.getElem?_eq_some_iff.1 HX5.out).1).trans HX5.out
 have B6:=xaQ (below_step' B5.out b6 (by have:=(Array.getElem?_eq_some_iff.1 HP5.out).1;omega))
 have HS6:=xaQ (Sits.stay _ (fun q hq=>b6.block q (Sits.lt _ HS5.out q hq)) HS5.out)
 obtain ⟨c0,c1,c2,c3,f0,f1,f2,f3⟩:=xcQ P6
 obtain ⟨d0,d1,e0,e1⟩:=two_of Q6
 have HPP:=xaQ P6
 have HQ:=xaQ Q6
 have HX6:=xaQ X6
 clear P6 Q6 X6 b6 HD HK5 x0 x1 x2 x3
 obtain ⟨x0,x1,x2,x3,_⟩:=xcQ HX6.out
 clear hd
 go_wp2
 obtain ⟨q0,q1,q2,q3,r0,r1⟩:=out_cells HPP.out HQ.out (by omega) (.int .i64 xk) (.string xs) (.int .i64 xm) (.slice xa xkk.length xc) (.int .i64 0) (.int .i64 0)
 refine bodyPost_ret (v:=.tuple #[(A.node xk xs xm xa xc xkk).val,.agg #[.int .i64 0,.int .i64 0]]) (by simp [results,Tryz.results64,go_sem,q0,q1,q2,q3,r0,r1,A.val]) rfl ?_
 refine ⟨_,by rw [HP.out],by rw [HP.out];exact HT.out,Sits.stay _ (fun q hq=>?_) HS6.out,HN.out.mono (by omega),?_⟩
 ·have:=HN.out.2 q hq
  rw [put2_other _ _ (by omega),xLQ _ _ _ _ (by omega)]
 ·exact put2_below (put4_below B6.out (Nat.le_refl _) _ _ _ _) (Nat.le_succ _) _ _
theorem sParse_any (s:ByteArray) (w:World) (hs:s.size≤maxLen):Calls Tryz.prog 64 #[.string s] w (Parsed s w):=by
 by_cases hc:(xkQ s).2.1=0
 ·cases hr:mProg (xkQ s).1 (fuelI (xkQ s).1) (fuelI (xkQ s).1) [] 0 with
  | no p=>exact sparse_no s w hs hc hr
  | ok t j =>
   by_cases hd:dep t≤24∧cnt t≤500
   ·exact sparse_small s w hs hc hr hd
   ·exact sparse_large s w hs hc hr hd
 ·exact sparse_fault s w hs hc
end Go.Proofs.YtocbgbkdlfkjjaaGreatDoor
