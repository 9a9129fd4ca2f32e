/- CONTRACT of the specification's l01Digits. -/
import Derived.Test.YtocbgbkdlfkjjaaGreatDoorMHb
import Derived.Test.YtocbgbkdlfkjjaaGreatDoorMHsh
import Derived.Test.YtocbgbkdlfkjjaaGreatDoorMHg
set_option maxRecDepth 100000
namespace Go.Proofs.YtocbgbkdlfkjjaaGreatDoor
open Go.RowKit
def dec (n:Nat):ByteArray:=⟨(Lib.decDigits n).toArray⟩
theorem dec_small {n:Nat} (h:n<10):dec n=⟨#[UInt8.ofNat (48+n)]⟩:=by
 unfold dec
 rw [Lib.decDigits,dif_pos h]
theorem dec_more {n:Nat} (h:¬ n<10):dec n=dec (n / 10)++⟨#[UInt8.ofNat (48+n % 10)]⟩:=by
 unfold dec
 conv=>lhs;rw [Lib.decDigits,dif_neg h]
 apply ByteArray.ext
 simp
theorem dec_size (n:Nat):(dec n).size≤n+1:=by
 induction n using Nat.strongRecOn with
 | ind n ih =>
  by_cases h:n<10
  ·rw [dec_small h]
   exact Nat.succ_le_succ (Nat.zero_le _)
  ·rw [dec_more h,ByteArray.size_append]
   have:=ih (n / 10) (by omega)
   have e:(ByteArray.mk #[UInt8.ofNat (48+n % 10)]).size=1:=rfl
   omega
theorem conv_one (d b:Nat) (w:World) (hd:d<10) (hc:w.cell? ⟨b,0,none⟩=some (.int .u8 (48+(d:Int)))) :
    Sem.run Tryz.prog (convert 110 9 (.slice (some ⟨b,0,none⟩) 1 1)) w=.ok (.string ⟨#[UInt8.ofNat (48+d)]⟩) w:=by
 refine run_convert_bytes_back (P:=Tryz.prog) w 110 9 5 ⟨b,0,none⟩ 1 [UInt8.ofNat (48+d)] Tryz.underlying110 Tryz.underlying5 Tryz.underlying9 (fun i hi=>?_)
 have e:i=0:=by simpa using hi
 subst e
 rw [WideShapes.add_plain]
 have h:(UInt8.ofNat (48+d)).toNat=48+d:=by
  rw [UInt8.toNat_ofNat']
  omega
 simp only [List.getElem_cons_zero,h]
 rw [hc]
 rfl
set_option maxHeartbeats 1600000 in
theorem digits_any:∀ (n:Nat) (w:World),n≤1000000→Calls Tryz.prog 91 #[.int .i64 n] w fun e w'=>e=.returned (.string (dec n))∧Below w.heap.size w w':=by
 intro n
 induction n using Nat.strongRecOn with
 | ind n ih =>
  intro w hn
  have h0:(0:Int)≤(n:Int):=by omega
  by_cases h:n<10
  ·clear ih
   have hconv:=conv_one n w.heap.size (w.alloc (.cells #[.int .u8 (48+(n:Int))] 5)) h (by simp [go_sem])
   rw [dec_small h]
   generalize UInt8.ofNat (48+n)=x at hconv ⊢
   go_enter Tryz.func91,Tryz.ntmps91
   go_wp2
   go_ret
   exact ⟨rfl,(Below.refl _ _).alloc (Nat.le_refl _) _⟩
  ·have h1:(10:Int)≤(n:Int):=by omega
   have HD:=xaQ (dec_more h)
   obtain ⟨q,hq⟩:∃ q,q=n / 10:=⟨_,rfl⟩
   obtain ⟨r,hr⟩:∃ r,r=n % 10:=⟨_,rfl⟩
   rw [← hq,← hr] at HD
   have hq':Int.tdiv (n:Int) 10=(q:Int):=by rw [Int.tdiv_eq_ediv_of_nonneg h0];omega
   have hr':Int.tmod (n:Int) 10=(r:Int):=by rw [Int.tmod_eq_emod_of_nonneg h0];omega
   have hr9:(r:Int)<10:=by omega
   have hr0:(0:Int)≤(r:Int):=by omega
   have HI:=xaQ (fun W=>ih q (by omega) W (by omega))
   have hconv:=fun b W=>conv_one r b W (by omega)
   generalize UInt8.ofNat (48+r)=x at hconv HD
   have wq:IntKind.i64.wrap (q:Int)=(q:Int):=by rw [IntKind.wrap_i64];omega
   have wr:IntKind.i64.wrap (r:Int)=(r:Int):=by rw [IntKind.wrap_i64];omega
   have ws:IntKind.i64.wrap (48+(r:Int))=48+(r:Int):=by rw [IntKind.wrap_i64];omega
   have wu:IntKind.u8.wrap (48+(r:Int))=48+(r:Int):=by rw [IntKind.wrap_u8];omega
   have hds:=dec_size q
   have hqs:(dec q).size≤1000001:=by omega
   clear ih hq hr hds
   go_enter Tryz.func91,Tryz.ntmps91
   go_wp2_with fail
   go_region_with (first | (go_at_call 91;refine (HI.out _).mono ?_;rintro e w1 ⟨rfl,hb1⟩;obtain ⟨hc,hf⟩:=ykQ hb1))
   all_goals clear hc hf
   all_goals go_wp2
   all_goals go_ret
   all_goals refine ⟨by rw [HD.out];rfl,?_⟩
   all_goals first | exact (xbQ (Below.refl w.heap.size w).drew hb1).alloc (hb1.size) _ | exact xbQ (((Below.refl w.heap.size w).alloc (Nat.le_refl _) _).drew) hb1
end Go.Proofs.YtocbgbkdlfkjjaaGreatDoor
namespace Go.Proofs.YtocbgbkdlfkjjaaGreatDoor
open Go.RowKit
open Pl
def yJQ (k:Int):Int:=if k=6∨k=7 then 1 else if k=8 then 2 else 3
def par (k:Int) (s:ByteArray) (least:Int):ByteArray:=if yJQ k<least then ⟨#[40]⟩++s++⟨#[41]⟩ else s
def lay (k:Int) (s:ByteArray) (m:Int) (ka:Int) (a:ByteArray) (kb:Int) (b:ByteArray):ByteArray :=
 if k=1 then dec m.toNat else
 if k=2 then s else
 if k=3 then s++⟨#[91]⟩++a++⟨#[93]⟩ else
 if k=4 then ⟨#[108,101,110,40]⟩++s++⟨#[41]⟩ else
 if k=5 then ⟨#[45]⟩++par ka a 3 else
 if k=6 then par ka a 1++⟨#[32,43,32]⟩++par kb b 2 else
 if k=7 then par ka a 1++⟨#[32,45,32]⟩++par kb b 2 else
 if k=8 then par ka a 2++⟨#[32,42,32]⟩++par kb b 3 else
 a++⟨#[32]⟩++yfQ k++⟨#[32]⟩++b
def none2:Int × ByteArray:=(0,⟨#[]⟩)
mutual
def exS:T→ByteArray
 | .node k s m kk=>lay k s m ((exSs kk)[0]?.getD none2).1 ((exSs kk)[0]?.getD none2).2 ((exSs kk)[1]?.getD none2).1 ((exSs kk)[1]?.getD none2).2
def exSs:List T→List (Int × ByteArray)
 | []=>[]
 | t :: r=>(xdQ t,exS t) :: exSs r
end
theorem exS0 (k m:Int) (s:ByteArray):exS (.node k s m [])=lay k s m 0 ⟨#[]⟩ 0 ⟨#[]⟩:=by simp [exS,exSs,none2]
theorem exS1 (k m:Int) (s:ByteArray) (x:T):exS (.node k s m [x])=lay k s m (xdQ x) (exS x) 0 ⟨#[]⟩:=by simp [exS,exSs,none2]
theorem exS2 (k m:Int) (s:ByteArray) (x y:T):exS (.node k s m [x,y])=lay k s m (xdQ x) (exS x) (xdQ y) (exS y):=by simp [exS,exSs]
def Good1 (t:T):Prop:=xeQ t=true∧1≤xdQ t∧xdQ t≤8
def Good (t:T):Prop:=xeQ t=true∧(1≤xdQ t∧xdQ t≤8∨11≤xdQ t∧xdQ t≤16)
theorem Good1.good {t:T} (h:Good1 t):Good t:=⟨h.1,.inl h.2⟩
theorem xnQ {k m:Int} {s:ByteArray} {kk:List T} (h:xeQ (.node k s m kk)=true):xfQ k s kk.length=true∧xWQ k m=true∧∀ (j:Nat) (t:T),kk[j]?=some t→(kidI k kk.length j (xdQ t) && xeQ t)=true:=by
 rw [show xeQ (.node k s m kk)=(xfQ k s kk.length && xWQ k m && ydQ k kk.length 0 kk) by simp only [xeQ]] at h
 simp only [Bool.and_eq_true] at h
 obtain ⟨⟨h1,h2⟩,h3⟩:=h
 exact ⟨h1,h2,fun j t ht=>by have:=(xJQ _ _ _ _).1 h3 j t ht;rwa [Nat.zero_add] at this⟩
theorem nameB_le (s:ByteArray) (h:xBQ s=true):s.size≤8:=by
 have hp:zXQ s:=by simpa [xBQ] using h
 exact hp.2.1
theorem yLQ {k:Int} {s:ByteArray} {n:Nat} (h:xfQ k s n=true):s.size≤8:=by
 unfold xfQ at h
 generalize xuQ k=sh at h
 obtain ⟨ks,nm,sm⟩:=sh
 simp at h
 cases nm with
 | true=>exact nameB_le s (by simpa using h.1.2)
 | false =>
  have:=h.1.1.2
  simp at this
  rw [this]
  exact Nat.zero_le _
inductive Shp (k m:Int) (kk:List T):Prop
 | num (h:k=1) (hk:kk=[]) (h0:0≤m) (h1:m≤1000000)
 | var (h:k=2) (hk:kk=[])
 | len (h:k=4) (hk:kk=[])
 | cell (h:k=3) (x:T) (hk:kk=[x]) (hx:Good1 x)
 | neg (h:k=5) (x:T) (hk:kk=[x]) (hx:Good1 x)
 | pair (h:k=6∨k=7∨k=8) (x y:T) (hk:kk=[x,y]) (hx:Good1 x) (hy:Good1 y)
 | cond (h:11≤k∧k≤16) (x y:T) (hk:kk=[x,y]) (hx:Good1 x) (hy:Good1 y)
theorem x8Q {x lo hi:Int} (h:betw x lo hi=true):lo≤x∧x≤hi:=by simpa [betw] using h
theorem xOQ {k m:Int} {s:ByteArray} {kk:List T} (h:Good (.node k s m kk)):s.size≤8∧Shp k m kk:=by
 obtain ⟨h1,h2⟩:=h
 obtain ⟨hh,hn,hk⟩:=xnQ h1
 refine ⟨yLQ hh,?_⟩
 have h2':1≤k∧k≤8∨11≤k∧k≤16:=h2
 have kid:∀ (j:Nat) (t:T),kk[j]?=some t→(k≠24∧k≠25∧k≠27∧k≠26∧k≠30∧k≠40)→Good1 t:=by
  rintro j t ht ⟨a1,a2,a3,a4,a5,a6⟩
  have:=hk j t ht
  rw [show kidI k kk.length j (xdQ t)=betw (xdQ t) 1 8 by simp [kidI,a1,a2,a3,a4,a5,a6]] at this
  simp only [Bool.and_eq_true] at this
  exact ⟨this.2,x8Q this.1⟩
 have none:k≠24∧k≠25∧k≠27∧k≠26∧k≠30∧k≠40:=by omega
 have ar:∀ (n:Int) (b:Bool),xuQ k=(n,b,true)→0≤n→(kk.length:Int)=n:=by
  intro n b e h0
  unfold xfQ at hh
  rw [e] at hh
  simp at hh
  omega
 have one:kk.length=1→∃ x,kk=[x]∧Good1 x:=fun e=>by
  obtain ⟨x,hx⟩:=List.length_eq_one_iff.1 e
  exact ⟨x,hx,kid 0 x (by rw [hx];rfl) none⟩
 have two:kk.length=2→∃ x y,kk=[x,y]∧Good1 x∧Good1 y:=fun e=>by
  obtain ⟨x,y,hx⟩:∃ x y,kk=[x,y]:=by
   match kk,e with
   | [x,y],_=>exact ⟨x,y,rfl⟩
  exact ⟨x,y,hx,kid 0 x (by rw [hx];rfl) none,kid 1 y (by rw [hx];rfl) none⟩
 by_cases e1:k=1
 ·have hl:=ar 0 false (by rw [e1];rfl) (by decide)
  rw [show xWQ k m=betw m 0 1000000 by simp [xWQ,e1]] at hn
  exact .num e1 (List.length_eq_zero_iff.1 (by omega)) (x8Q hn).1 (x8Q hn).2
 by_cases e2:k=2
 ·have hl:=ar 0 true (by rw [e2];rfl) (by decide)
  exact .var e2 (List.length_eq_zero_iff.1 (by omega))
 by_cases e4:k=4
 ·have hl:=ar 0 true (by rw [e4];rfl) (by decide)
  exact .len e4 (List.length_eq_zero_iff.1 (by omega))
 by_cases e3:k=3
 ·have hl:=ar 1 true (by rw [e3];rfl) (by decide)
  obtain ⟨x,hx,gx⟩:=one (by omega)
  exact .cell e3 x hx gx
 by_cases e5:k=5
 ·have hl:=ar 1 false (by rw [e5];rfl) (by decide)
  obtain ⟨x,hx,gx⟩:=one (by omega)
  exact .neg e5 x hx gx
 by_cases e6:k=6
 ·have hl:=ar 2 false (by rw [e6];rfl) (by decide)
  obtain ⟨x,y,hx,gx,gy⟩:=two (by omega)
  exact .pair (by omega) x y hx gx gy
 by_cases e7:k=7
 ·have hl:=ar 2 false (by rw [e7];rfl) (by decide)
  obtain ⟨x,y,hx,gx,gy⟩:=two (by omega)
  exact .pair (by omega) x y hx gx gy
 by_cases e8:k=8
 ·have hl:=ar 2 false (by rw [e8];rfl) (by decide)
  obtain ⟨x,y,hx,gx,gy⟩:=two (by omega)
  exact .pair (by omega) x y hx gx gy
 ·have hk':k=11∨k=12∨k=13∨k=14∨k=15∨k=16:=by omega
  have hs:xuQ k=(2,false,true):=by rcases hk' with rfl | rfl | rfl | rfl | rfl | rfl <;> rfl
  have hl:=ar 2 false hs (by decide)
  obtain ⟨x,y,hx,gx,gy⟩:=two (by omega)
  exact .cond (by omega) x y hx gx gy
theorem yWQ (k:Int) (s:ByteArray) (l:Int):(par k s l).size≤s.size+2:=by
 unfold par
 split
 ·rw [ByteArray.size_append,ByteArray.size_append]
  have e1:(ByteArray.mk #[40]).size=1:=rfl
  have e2:(ByteArray.mk #[41]).size=1:=rfl
  omega
 ·omega
theorem sign_size (k:Int):(yfQ k).size≤2:=by
 unfold yfQ
 repeat' split
 all_goals decide
theorem lay_size (k m:Int) (s:ByteArray) (ka:Int) (a:ByteArray) (kb:Int) (b:ByteArray) (hs:s.size≤8) (hm:m≤1000000):(lay k s m ka a kb b).size≤2000000+a.size+b.size:=by
 have d:=dec_size m.toNat
 have p1:=yWQ ka a 1
 have p2:=yWQ ka a 2
 have p3:=yWQ ka a 3
 have q2:=yWQ kb b 2
 have q3:=yWQ kb b 3
 have sg:=sign_size k
 unfold lay
 repeat' split
 all_goals try simp only [ByteArray.size_append]
 all_goals try simp only [show (ByteArray.mk #[91]).size=1 from rfl,show (ByteArray.mk #[93]).size=1 from rfl,show (ByteArray.mk #[41]).size=1 from rfl,show (ByteArray.mk #[45]).size=1 from rfl,show (ByteArray.mk #[32]).size=1 from rfl,show (ByteArray.mk #[108,101,110,40]).size=4 from rfl,show (ByteArray.mk #[32,43,32]).size=3 from rfl,show (ByteArray.mk #[32,45,32]).size=3 from rfl,show (ByteArray.mk #[32,42,32]).size=3 from rfl]
 all_goals omega
theorem xGQ (t:T):Good t→(exS t).size≤2000000 * cnt t:=by
 refine T.induct (P:=fun t=>Good t→(exS t).size≤2000000 * cnt t) ?_ t
 intro k s m kk IH hg
 obtain ⟨hs,sh⟩:=xOQ hg
 have hm:m≤1000000:=by
  have:=(xnQ hg.1).2.1
  unfold xWQ at this
  split at this
  ·exact (x8Q this).2
  ·split at this
   ·exact (x8Q this).2
   ·simp at this
    omega
 have z:(ByteArray.mk #[]).size=0:=rfl
 have L:=fun ka a kb b=>lay_size k m s ka a kb b hs hm
 cases sh with
 | num h hk h0 h1=>subst hk;rw [exS0];have:=L 0 ⟨#[]⟩ 0 ⟨#[]⟩;simp only [cnt,cnts];omega
 | var h hk=>subst hk;rw [exS0];have:=L 0 ⟨#[]⟩ 0 ⟨#[]⟩;simp only [cnt,cnts];omega
 | len h hk=>subst hk;rw [exS0];have:=L 0 ⟨#[]⟩ 0 ⟨#[]⟩;simp only [cnt,cnts];omega
 | cell h x hk hx=>subst hk;rw [exS1];have:=L (xdQ x) (exS x) 0 ⟨#[]⟩;have:=IH x (by simp) hx.good;simp only [cnt,cnts];omega
 | neg h x hk hx=>subst hk;rw [exS1];have:=L (xdQ x) (exS x) 0 ⟨#[]⟩;have:=IH x (by simp) hx.good;simp only [cnt,cnts];omega
 | pair h x y hk hx hy=>subst hk;rw [exS2];have:=L (xdQ x) (exS x) (xdQ y) (exS y);have:=IH x (by simp) hx.good;have:=IH y (by simp) hy.good;simp only [cnt,cnts];omega
 | cond h x y hk hx hy=>subst hk;rw [exS2];have:=L (xdQ x) (exS x) (xdQ y) (exS y);have:=IH x (by simp) hx.good;have:=IH y (by simp) hy.good;simp only [cnt,cnts];omega
def varT (s:ByteArray):T:=.node 2 s 0 []
def setT (s:ByteArray) (e:T):T:=.node 21 s 0 [e]
def nextT (s:ByteArray):T:=setT s (.node 6 ⟨#[]⟩ 0 [varT s,.node 1 ⟨#[]⟩ 1 []])
def addK (t x:T):T:=match t with | .node k s m kk=>.node k s m (kk++[x])
def loopT (s:ByteArray) (b c:T):T:=.node 25 ⟨#[]⟩ 0 [.node 11 ⟨#[]⟩ 0 [varT s,b],addK c (nextT s)]
def forT (s:ByteArray) (l:List T):List T:=match l with | [a,b,c]=>[setT s a,loopT s b c] | _=>[]
mutual
def plnT:T→T
 | .node k s m kk=>.node k s m (plnL kk)
def plnK:T→List T
 | .node k s m kk=>if k=26 then forT s (plnE kk) else [.node k s m (plnL kk)]
def plnL:List T→List T
 | []=>[]
 | t :: r=>plnK t++plnL r
def plnE:List T→List T
 | []=>[]
 | t :: r=>plnT t :: plnE r
end
theorem yEQ {t:T} (h:xdQ t≠26):plnK t=[plnT t]:=by
 obtain ⟨k,s,m,kk⟩:=t
 simp only [plnK,plnT]
 exact if_neg h
theorem plnK_for {s:ByteArray} {m:Int} {a b c:T}:plnK (.node 26 s m [a,b,c])=[setT s (plnT a),loopT s (plnT b) (plnT c)]:=by simp [plnK,plnE,forT]
theorem plnL_append (p q:List T):plnL (p++q)=plnL p++plnL q:=by
 induction p with
 | nil=>rfl
 | cons x r ih=>simp only [List.cons_append,plnL,ih,List.append_assoc]
theorem good_pln (t:T):Good t→plnT t=t:=by
 refine T.induct (P:=fun t=>Good t→plnT t=t) ?_ t
 intro k s m kk ih h
 have one:∀ x∈kk,Good1 x→plnK x=[x]:=fun x hx hg=>by rw [yEQ (by have:=hg.2;omega),ih x hx hg.good]
 obtain ⟨_,hs⟩:=xOQ h
 simp only [plnT]
 congr 1
 rcases hs with ⟨_,e,_,_⟩ | ⟨_,e⟩ | ⟨_,e⟩ | ⟨_,x,e,g⟩ | ⟨_,x,e,g⟩ | ⟨_,x,y,e,g,g'⟩ | ⟨_,x,y,e,g,g'⟩ <;> subst e <;> simp only [plnL]
 ·rw [one x (by simp) g];rfl
 ·rw [one x (by simp) g];rfl
 ·rw [one x (by simp) g,one y (by simp) g'];rfl
 ·rw [one x (by simp) g,one y (by simp) g'];rfl
theorem zUQ (p q:List T):cnts (p++q)=cnts p+cnts q:=by
 induction p with
 | nil=>simp [cnts]
 | cons x r ih=>simp only [List.cons_append,cnts,ih];omega
theorem cnt_one (t:T):1≤cnt t:=by cases t;simp only [cnt];omega
theorem ywQ (kk:List T):kk.length≤cnts kk:=by
 induction kk with
 | nil=>simp [cnts]
 | cons x r ih=>have:=cnt_one x;simp only [cnts,List.length_cons];omega
theorem forT_cnt (s:ByteArray) (l:List T):cnts (forT s l)≤8+cnts l:=by
 unfold forT
 split
 ·rename_i a b c
  obtain ⟨k,s',m,kk⟩:=c
  simp only [cnts,cnt,setT,loopT,addK,nextT,varT,zUQ]
  omega
 ·simp [cnts]
theorem plnL_cnt {kk:List T} (ih:∀ t∈kk,cnts (plnK t)≤8 * cnt t):cnts (plnL kk)≤8 * cnts kk:=by
 induction kk with
 | nil=>simp [plnL,cnts]
 | cons x r ih2 =>
   have:=ih x (by simp)
   have:=ih2 (fun t ht=>ih t (by simp [ht]))
   simp only [plnL,cnts,zUQ];omega
theorem plnE_cnt {kk:List T} (ih:∀ t∈kk,cnt (plnT t)≤8 * cnt t):cnts (plnE kk)≤8 * cnts kk:=by
 induction kk with
 | nil=>simp [plnE,cnts]
 | cons x r ih2 =>
   have:=ih x (by simp)
   have:=ih2 (fun t ht=>ih t (by simp [ht]))
   simp only [plnE,cnts];omega
theorem pln_cnt (t:T):cnt (plnT t)≤8 * cnt t∧cnts (plnK t)≤8 * cnt t:=by
 refine T.induct (P:=fun t=>cnt (plnT t)≤8 * cnt t∧cnts (plnK t)≤8 * cnt t) ?_ t
 intro k s m kk ih
 have h1:=plnL_cnt fun t ht=>(ih t ht).2
 have h2:=plnE_cnt fun t ht=>(ih t ht).1
 refine ⟨by simp only [plnT,cnt];omega,?_⟩
 simp only [plnK]
 split
 ·have:=forT_cnt s (plnE kk);simp only [cnt];omega
 ·simp only [cnts,cnt];omega
theorem formed_for {s:ByteArray} {m:Int} {kk:List T} (h:xeQ (.node 26 s m kk)=true):∃ a b c,kk=[a,b,c]∧Good1 a∧Good1 b∧xdQ c=30∧xeQ c=true:=by
 obtain ⟨hh,_,hk⟩:=xnQ h
 have hl:kk.length=3:=by
  unfold xfQ at hh
  rw [show xuQ 26=(3,true,true) from rfl] at hh
  simp at hh
  omega
 match kk,hl with
 | [a,b,c],_ =>
   have h0:=hk 0 a rfl
   have h1:=hk 1 b rfl
   have h2:=hk 2 c rfl
   simp [kidI] at h0 h1 h2
   exact ⟨a,b,c,rfl,⟨h0.2,x8Q h0.1⟩,⟨h1.2,x8Q h1.1⟩,h2.1,h2.2⟩
theorem zaQ {k m:Int} {s:ByteArray} {kk:List T} (h:xeQ (.node k s m kk)=true) {t:T} (ht:t∈kk):xeQ t=true:=by
 obtain ⟨j,hj⟩:=List.getElem?_of_mem ht
 have:=(xnQ h).2.2 j t hj
 simp only [Bool.and_eq_true] at this
 exact this.2
def yHQ:T→ByteArray | .node _ s _ _=>s
def numT:T→Int | .node _ _ m _=>m
def declK (k:Int):Int:=if k=2∨k=21∨k=23∨k=26 then 31 else if k=3∨k=4∨k=22 then 32 else 0
def ycQ:List T→ByteArray→Int
 | [],_=>0
 | t :: r,s=>if yHQ t=s then xdQ t else ycQ r s
def trbl (f:ByteArray→Int) (k:Int) (s:ByteArray):Int:=if declK k=f s∨declK k=0 then 0 else if f s=0 then 7 else 8
mutual
def wrg (p:Int→ByteArray→Bool):T→Option ByteArray
 | .node k s _ kk=>if p k s=true then some s else wrgL p kk
def wrgL (p:Int→ByteArray→Bool):List T→Option ByteArray
 | []=>none
 | t :: r=>(wrg p t).or (wrgL p r)
end
theorem wrg_congr {q p p':Int→ByteArray→Bool} (h:∀ k s,q k s=false→p k s=p' k s) (t:T):wrg q t=none→wrg p t=wrg p' t:=by
 refine T.induct (P:=fun t=>wrg q t=none→wrg p t=wrg p' t) ?_ t
 intro k s m kk ih hq
 simp only [wrg] at hq ⊢
 split at hq
 ·cases hq
 ·rename_i hn
  rw [h k s (by simpa using hn)]
  split
  ·rfl
  ·clear hn
   induction kk with
   | nil=>rfl
   | cons x r ih2 =>
     simp only [wrgL,Option.or_eq_none_iff] at hq ⊢
     rw [ih x (by simp) hq.1,ih2 (fun t ht=>ih t (by simp [ht])) hq.2]
theorem wrg_same {p p':Int→ByteArray→Bool} (h:∀ k s,p k s=p' k s) (t:T):wrg p t=wrg p' t:=by
 have:p=p':=funext fun k=>funext fun s=>h k s
 rw [this]
def Dk (D:List T):Prop:=∀ t∈D,xdQ t=31∨xdQ t=32
theorem look_zero {D:List T} (h:Dk D) (s:ByteArray):ycQ D s=0 ↔ ∀ t∈D,yHQ t≠s:=by
 induction D with
 | nil=>simp [ycQ]
 | cons x r ih =>
   have hx:=h x (by simp)
   have ih:=ih (fun t ht=>h t (by simp [ht]))
   simp only [ycQ,List.mem_cons,forall_eq_or_imp]
   split
   ·rename_i e;simp [e];omega
   ·rename_i e;simp [e,ih]
theorem look_snoc {D:List T} (h:Dk D) (t:T) (hz:ycQ D (yHQ t)=0) (s:ByteArray):ycQ (D++[t]) s=if yHQ t=s then xdQ t else ycQ D s:=by
 induction D with
 | nil=>simp [ycQ]
 | cons x r ih =>
   have hx:=h x (by simp)
   simp only [ycQ] at hz
   split at hz
   ·omega
   ·rename_i e
    have ih:=ih (fun t ht=>h t (by simp [ht])) hz
    simp only [List.cons_append,ycQ,ih]
    by_cases e1:yHQ x=s
    ·have:¬ yHQ t=s:=fun e2=>e (e1.trans e2.symm)
     simp [e1,this]
    ·simp [e1]
def zdQ:List T→List T→Option ByteArray
 | _,[]=>none
 | D,t :: r=>if ycQ D (yHQ t)=0 then zdQ (D++[t]) r else some (yHQ t)
def x5Q (D:List T) (k:Int):List ByteArray:=(D.filter fun t=>decide (xdQ t=k)).map yHQ
theorem mem_names {D:List T} {k:Int} {s:ByteArray}:s∈x5Q D k ↔ ∃ t∈D,xdQ t=k∧yHQ t=s:=by
 simp only [x5Q,List.mem_map,List.mem_filter,decide_eq_true_eq]
 exact ⟨fun ⟨t,⟨h1,h2⟩,h3⟩=>⟨t,h1,h2,h3⟩,fun ⟨t,h1,h2,h3⟩=>⟨t,⟨h1,h2⟩,h3⟩⟩
def ApartN:List T→Prop
 | []=>True
 | t :: r=>(∀ x∈r,yHQ x≠yHQ t)∧ApartN r
theorem apart_snoc {D:List T} {t:T} (h:ApartN D) (hn:∀ x∈D,yHQ x≠yHQ t):ApartN (D++[t]):=by
 induction D with
 | nil=>simp [ApartN]
 | cons x r ih =>
   simp only [List.cons_append,ApartN] at h ⊢
   refine ⟨fun y hy=>?_,ih h.2 (fun y hy=>hn y (by simp [hy]))⟩
   rcases List.mem_append.1 hy with hy | hy
   ·exact h.1 y hy
   ·rw [List.mem_singleton.1 hy];exact fun e=>hn x (by simp) e.symm
theorem twice_apart {r D:List T} (hk:Dk (D++r)) (h:ApartN D):zdQ D r=none→ApartN (D++r):=by
 induction r generalizing D with
 | nil=>intro _;simpa using h
 | cons t r ih =>
   intro hz
   simp only [zdQ] at hz
   split at hz
   ·rename_i e
    have:=ih (D:=D++[t]) (by simpa using hk) (apart_snoc h ((look_zero (fun x hx=>hk x (by simp [hx])) _).1 e)) hz
    simpa using this
   ·cases hz
theorem look_apart {D:List T} (hk:Dk D) (h:ApartN D) (s:ByteArray) {k:Int} (h0:k≠0):ycQ D s=k ↔ s∈x5Q D k:=by
 rw [mem_names]
 induction D with
 | nil=>simp [ycQ];omega
 | cons x r ih =>
   have ih:=ih (fun t ht=>hk t (by simp [ht])) h.2
   simp only [ycQ]
   split
   ·rename_i e
    constructor
    ·intro e2;exact ⟨x,by simp,e2,e⟩
    ·rintro ⟨t,ht,h1,h2⟩
     rcases List.mem_cons.1 ht with rfl | ht
     ·exact h1
     ·exact absurd (h2.trans e.symm) (h.1 t ht)
   ·rename_i e
    rw [ih]
    constructor
    ·rintro ⟨t,ht,h1⟩;exact ⟨t,by simp [ht],h1⟩
    ·rintro ⟨t,ht,h1,h2⟩
     rcases List.mem_cons.1 ht with rfl | ht
     ·exact absurd h2 e
     ·exact ⟨t,ht,h1,h2⟩
theorem look_kinds {D:List T} (hk:Dk D) (s:ByteArray):ycQ D s=0∨ycQ D s=31∨ycQ D s=32:=by
 induction D with
 | nil=>simp [ycQ]
 | cons x r ih =>
   have:=hk x (by simp)
   have:=ih (fun t ht=>hk t (by simp [ht]))
   simp only [ycQ]
   split <;> omega
def wantS (k:Int):Int:=if k=2∨k=21∨k=23∨k=26 then 1 else if k=3∨k=4∨k=22 then 2 else 0
def inN (V:List ByteArray) (s:ByteArray):Bool:=V.any fun x=>decide (x=s)
theorem inN_iff {V:List ByteArray} {s:ByteArray}:inN V s=true ↔ s∈V:=by
 simp only [inN,List.any_eq_true,decide_eq_true_eq]
 exact ⟨fun ⟨x,h,e⟩=>e ▸ h,fun h=>⟨s,h,rfl⟩⟩
def badS (V R:List ByteArray) (c:Int) (k:Int) (s:ByteArray):Bool :=
 decide (0<wantS k) && ((decide (c=7) && !inN V s && !inN R s) || (decide (c=8) && ((decide (wantS k=1) && !inN V s) || (decide (wantS k=2) && !inN R s))))
def badP (f:ByteArray→Int) (c:Int) (k:Int) (s:ByteArray):Bool:=decide (trbl f k s=c)
theorem bad_same {D:List T} (hk:Dk D) (h:ApartN D) (k:Int) (s:ByteArray) :
    badP (ycQ D) 7 k s=badS (x5Q D 31) (x5Q D 32) 7 k s∧(badP (ycQ D) 7 k s=false→badP (ycQ D) 8 k s=badS (x5Q D 31) (x5Q D 32) 8 k s):=by
 have hV:=look_apart hk h s (k:=31) (by decide)
 have hR:=look_apart hk h s (k:=32) (by decide)
 have h3:=look_kinds hk s
 unfold badP badS trbl
 have e:declK k=if wantS k=1 then 31 else if wantS k=2 then 32 else 0:=by
  unfold declK wantS
  split
  ·simp
  ·split <;> simp
 rw [e]
 have hw:wantS k=0∨wantS k=1∨wantS k=2:=by unfold wantS;split <;> (try split) <;> simp
 generalize ycQ D s=x at *
 have eV:inN (x5Q D 31) s=decide (x=31):=by rw [Bool.eq_iff_iff,inN_iff,← hV];simp
 have eR:inN (x5Q D 32) s=decide (x=32):=by rw [Bool.eq_iff_iff,inN_iff,← hR];simp
 rw [eV,eR]
 clear hV hR e hk h eV eR
 rcases hw with hw | hw | hw <;> rcases h3 with rfl | rfl | rfl <;> simp [hw]
def cntK (D:List T) (k:Int):Nat:=(x5Q D k).length
def manyD (D:List T):Bool:=decide (8<cntK D 31) || decide (4<cntK D 32) || D.any fun t=>decide (60<numT t)
theorem zEQ {s:ByteArray} {m:Int} {kk:List T} (h:xeQ (.node 40 s m kk)=true):s=⟨#[]⟩∧m=0∧∃ (D:List T) (B:T),kk=D++[B]∧Dk D∧xdQ B=30∧xeQ B=true∧(∀ t∈D,xeQ t=true):=by
 obtain ⟨hh,hn,hk⟩:=xnQ h
 unfold xfQ at hh
 rw [show xuQ 40=(-1,false,true) from rfl] at hh
 simp at hh
 have hs:s=⟨#[]⟩:=hh.1
 have hne:kk≠[]:=hh.2
 refine ⟨hs,by simpa [xWQ] using hn,kk.dropLast,kk.getLast hne,(List.dropLast_concat_getLast hne).symm,?_,?_,?_,?_⟩
 ·intro t ht
  obtain ⟨j,hj⟩:=List.getElem?_of_mem ht
  have hl:j<kk.dropLast.length:=(List.getElem?_eq_some_iff.1 hj).1
  rw [List.length_dropLast] at hl
  have hj2:kk[j]?=some t:=by rw [List.getElem?_dropLast,if_pos (by omega)] at hj;exact hj
  have:=hk j t hj2
  simp only [Bool.and_eq_true] at this
  have h1:=this.1
  unfold kidI at h1
  simp at h1
  rw [if_neg (by omega)] at h1
  simpa using h1
 ·have:=hk (kk.length - 1) (kk.getLast hne) (by rw [List.getLast_eq_getElem];exact List.getElem?_eq_getElem _)
  simp only [Bool.and_eq_true] at this
  have h1:=this.1
  have:0<kk.length:=List.length_pos_iff.2 hne
  unfold kidI at h1
  simp at h1
  rw [if_pos (by omega)] at h1
  simpa using h1
 ·exact zaQ h (List.getLast_mem hne)
 ·exact fun t ht=>zaQ h ((List.dropLast_sublist kk).mem ht)
theorem x4Q {α:Type} {l:List α} {i:Nat} {t:α} (h:l[i]?=some t):l.take (i+1)=l.take i++[t]:=by
 rw [List.take_add_one,h];rfl
theorem drop_cons {α:Type} {l:List α} {i:Nat} {t:α} (h:l[i]?=some t):l.drop i=t :: l.drop (i+1):=by
 obtain ⟨hi,e⟩:=List.getElem?_eq_some_iff.1 h
 rw [List.drop_eq_getElem_cons hi,e]
theorem twice_go {D:List T} {i:Nat} {t:T} (h:D[i]?=some t) (hz:ycQ (D.take i) (yHQ t)=0):zdQ (D.take i) (D.drop i)=zdQ (D.take (i+1)) (D.drop (i+1)):=by
 rw [drop_cons h,x4Q h];simp only [zdQ];rw [if_pos hz]
theorem twice_hit {D:List T} {i:Nat} {t:T} (h:D[i]?=some t) (hz:ycQ (D.take i) (yHQ t)≠0):zdQ (D.take i) (D.drop i)=some (yHQ t):=by
 rw [drop_cons h];simp only [zdQ];rw [if_neg hz]
theorem twice_end (D:List T):zdQ (D.take D.length) (D.drop D.length)=none:=by rw [List.drop_length];rfl
theorem dk_take {D:List T} (h:Dk D) (i:Nat):Dk (D.take i):=fun t ht=>h t (List.mem_of_mem_take ht)
theorem namesD_snoc (D:List T) (t:T) (k:Int):x5Q (D++[t]) k=x5Q D k++(if xdQ t=k then [yHQ t] else []):=by
 unfold x5Q
 rw [List.filter_append,List.map_append]
 by_cases h:xdQ t=k <;> simp [h]
theorem cntK_snoc (D:List T) (t:T) (k:Int):cntK (D++[t]) k=cntK D k+(if xdQ t=k then 1 else 0):=by
 unfold cntK;rw [namesD_snoc,List.length_append];split <;> simp
theorem cntK_le (D:List T) (k:Int):cntK D k≤D.length:=by
 unfold cntK x5Q;rw [List.length_map];exact List.length_filter_le _ _
def mxS (z:Int) (t:T):Int:=if xdQ t=32 then max z (numT t) else z
def mxD (D:List T):Int:=D.foldl mxS 0
theorem mxD_snoc (D:List T) (t:T):mxD (D++[t])=if xdQ t=32 then max (mxD D) (numT t) else mxD D:=by unfold mxD;rw [List.foldl_append];rfl
theorem mono_mx (r:List T) (z:Int):z≤r.foldl mxS z:=by
 induction r generalizing z with
 | nil=>exact Int.le_refl _
 | cons y q ih=>simp only [List.foldl_cons];refine Int.le_trans ?_ (ih _);unfold mxS;split <;> omega
theorem foldl_mx {D:List T} (z:Int) (hz:z≤60) (h:∀ t∈D,xdQ t=31→numT t=0) (hk:Dk D):60<D.foldl mxS z ↔ ∃ t∈D,60<numT t:=by
 induction D generalizing z with
 | nil=>simp only [List.foldl_nil,List.not_mem_nil,false_and,exists_false,iff_false];omega
 | cons x r ih =>
   have hx:=hk x (by simp)
   have h0:=h x (by simp)
   simp only [List.foldl_cons,List.mem_cons,exists_eq_or_imp]
   by_cases h6:60<numT x
   ·have e:xdQ x=32:=by omega
    have:=mono_mx r (mxS z x)
    have:mxS z x=max z (numT x):=by unfold mxS;rw [if_pos e]
    exact ⟨fun _=>.inl h6,fun _=>by omega⟩
   ·rw [ih (mxS z x) (by unfold mxS;split <;> omega) (fun t ht=>h t (by simp [ht])) (fun t ht=>hk t (by simp [ht]))]
    exact ⟨.inr,fun h=>h.resolve_left h6⟩
theorem mx_any {D:List T} (h:∀ t∈D,xdQ t=31→numT t=0) (hk:Dk D):decide (60<mxD D)=D.any fun t=>decide (60<numT t):=by
 rw [Bool.eq_iff_iff,List.any_eq_true,decide_eq_true_iff]
 simp only [decide_eq_true_iff]
 exact foldl_mx 0 (by decide) h hk
theorem decl_num {t:T} (h:xeQ t=true) (hk:xdQ t=31):numT t=0:=by
 obtain ⟨k,s,m,kk⟩:=t
 have:=(xnQ h).2.1
 have e:k=31:=hk
 subst e
 show m=0
 simpa [xWQ] using this
end Go.Proofs.YtocbgbkdlfkjjaaGreatDoor
