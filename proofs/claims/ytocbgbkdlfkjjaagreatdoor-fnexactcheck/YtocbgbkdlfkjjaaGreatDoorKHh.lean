/-
  CONTRACT of the specification's l01Digits.
  THE TEXT OF AN EXPRESSION, as a plain function; what a formed one looks like; how long its text is.
-/
import Derived.Test.YtocbgbkdlfkjjaaGreatDoorKHb
import Derived.Test.YtocbgbkdlfkjjaaGreatDoorKHsh
import Derived.Test.YtocbgbkdlfkjjaaGreatDoorKHg
namespace Go.Proofs.YtocbgbkdlfkjjaaGreatDoor
open Go.RowKit
def dec (n:Nat):ByteArray:=⟨(Lib.decDigits n).toArray⟩
theorem dec_small {n:Nat} (h:n<10):dec n=⟨#[UInt8.ofNat (48+n)]⟩:=by
 unfold dec
 rw [Lib.decDigits,dif_pos h]
theorem dec_more {n:Nat} (h:¬ n<10):dec n=dec (n / 10)++⟨#[UInt8.ofNat (48+n % 10)]⟩:=by
 unfold dec
 conv=>lhs;rw [Lib.decDigits,dif_neg h]
 apply ByteArray.ext
 simp
theorem dec_size (n:Nat):(dec n).size≤n+1:=by
 induction n using Nat.strongRecOn with
 | ind n ih =>
  by_cases h:n<10
  ·rw [dec_small h]
   exact Nat.succ_le_succ (Nat.zero_le _)
  ·rw [dec_more h,ByteArray.size_append]
   have:=ih (n / 10) (by omega)
   have e:(ByteArray.mk #[UInt8.ofNat (48+n % 10)]).size=1:=rfl
   omega
/-- One byte of a digit, as a string. -/
theorem conv_one (d b:Nat) (w:World) (hd:d<10) (hc:w.cell? ⟨b,0,none⟩=some (.int .u8 (48+(d:Int)))) :
    Sem.run Tryz.prog (convert 110 9 (.slice (some ⟨b,0,none⟩) 1 1)) w=.ok (.string ⟨#[UInt8.ofNat (48+d)]⟩) w:=by
  refine run_convert_bytes_back (P:=Tryz.prog) w 110 9 5 ⟨b,0,none⟩ 1 [UInt8.ofNat (48+d)] Tryz.underlying110 Tryz.underlying5 Tryz.underlying9 (fun i hi=>?_)
  have e:i=0:=by simpa using hi
  subst e
  rw [WideShapes.add_plain]
  have h:(UInt8.ofNat (48+d)).toNat=48+d:=by
    rw [UInt8.toNat_ofNat']
    omega
  simp only [List.getElem_cons_zero,h]
  rw [hc]
  rfl
set_option maxRecDepth 100000 in
set_option maxHeartbeats 1600000 in
theorem digits_any:∀ (n:Nat) (w:World),n≤1000000→Calls Tryz.prog 91 #[.int .i64 n] w fun e w'=>e=.returned (.string (dec n))∧Below w.heap.size w w':=by
 intro n
 induction n using Nat.strongRecOn with
 | ind n ih =>
  intro w hn
  have h0:(0:Int)≤(n:Int):=by omega
  by_cases h:n<10
  ·clear ih
   have hconv:=conv_one n w.heap.size (w.alloc (.cells #[.int .u8 (48+(n:Int))] 5)) h (by simp [go_sem])
   rw [dec_small h]
   generalize UInt8.ofNat (48+n)=x at hconv ⊢
   go_enter Tryz.func91,Tryz.ntmps91
   go_wp2
   go_ret
   exact ⟨rfl,(Below.refl _ _).alloc (Nat.le_refl _) _⟩
  ·have h1:(10:Int)≤(n:Int):=by omega
   have HD:=xaQ (dec_more h)
   obtain ⟨q,hq⟩:∃ q,q=n / 10:=⟨_,rfl⟩
   obtain ⟨r,hr⟩:∃ r,r=n % 10:=⟨_,rfl⟩
   rw [← hq,← hr] at HD
   have hq':Int.tdiv (n:Int) 10=(q:Int):=by rw [Int.tdiv_eq_ediv_of_nonneg h0];omega
   have hr':Int.tmod (n:Int) 10=(r:Int):=by rw [Int.tmod_eq_emod_of_nonneg h0];omega
   have hr9:(r:Int)<10:=by omega
   have hr0:(0:Int)≤(r:Int):=by omega
   have HI:=xaQ (fun W=>ih q (by omega) W (by omega))
   have hconv:=fun b W=>conv_one r b W (by omega)
   generalize UInt8.ofNat (48+r)=x at hconv HD
   have wq:IntKind.i64.wrap (q:Int)=(q:Int):=by rw [IntKind.wrap_i64];omega
   have wr:IntKind.i64.wrap (r:Int)=(r:Int):=by rw [IntKind.wrap_i64];omega
   have ws:IntKind.i64.wrap (48+(r:Int))=48+(r:Int):=by rw [IntKind.wrap_i64];omega
   have wu:IntKind.u8.wrap (48+(r:Int))=48+(r:Int):=by rw [IntKind.wrap_u8];omega
   have hds:=dec_size q
   have hqs:(dec q).size≤1000001:=by omega
   clear ih hq hr hds
   go_enter Tryz.func91,Tryz.ntmps91
   go_wp2_with fail
   go_region_with (first | (go_at_call 91;refine (HI.out _).mono ?_;rintro e w1 ⟨rfl,hb1⟩;obtain ⟨hc,hf⟩:=yrQ hb1))
   all_goals clear hc hf
   all_goals go_wp2
   all_goals go_ret
   all_goals refine ⟨by rw [HD.out];rfl,?_⟩
   all_goals first | exact (xbQ (Below.refl w.heap.size w).drew hb1).alloc (hb1.size) _ | exact xbQ (((Below.refl w.heap.size w).alloc (Nat.le_refl _) _).drew) hb1
end Go.Proofs.YtocbgbkdlfkjjaaGreatDoor
namespace Go.Proofs.YtocbgbkdlfkjjaaGreatDoor
open Go.RowKit
open Pl
def yFQ (k:Int):Int:=if k=6∨k=7 then 1 else if k=8 then 2 else 3
def par (k:Int) (s:ByteArray) (least:Int):ByteArray:=if yFQ k<least then ⟨#[40]⟩++s++⟨#[41]⟩ else s
def lay (k:Int) (s:ByteArray) (m:Int) (ka:Int) (a:ByteArray) (kb:Int) (b:ByteArray):ByteArray :=
 if k=1 then dec m.toNat else
 if k=2 then s else
 if k=3 then s++⟨#[91]⟩++a++⟨#[93]⟩ else
 if k=4 then ⟨#[108,101,110,40]⟩++s++⟨#[41]⟩ else
 if k=5 then ⟨#[45]⟩++par ka a 3 else
 if k=6 then par ka a 1++⟨#[32,43,32]⟩++par kb b 2 else
 if k=7 then par ka a 1++⟨#[32,45,32]⟩++par kb b 2 else
 if k=8 then par ka a 2++⟨#[32,42,32]⟩++par kb b 3 else
 a++⟨#[32]⟩++ycQ k++⟨#[32]⟩++b
def none2:Int × ByteArray:=(0,⟨#[]⟩)
mutual
def exS:T→ByteArray
 | .node k s m kk=>lay k s m ((exSs kk)[0]?.getD none2).1 ((exSs kk)[0]?.getD none2).2 ((exSs kk)[1]?.getD none2).1 ((exSs kk)[1]?.getD none2).2
def exSs:List T→List (Int × ByteArray)
 | []=>[]
 | t :: r=>(xdQ t,exS t) :: exSs r
end
theorem exS0 (k m:Int) (s:ByteArray):exS (.node k s m [])=lay k s m 0 ⟨#[]⟩ 0 ⟨#[]⟩:=by simp [exS,exSs,none2]
theorem exS1 (k m:Int) (s:ByteArray) (x:T):exS (.node k s m [x])=lay k s m (xdQ x) (exS x) 0 ⟨#[]⟩:=by simp [exS,exSs,none2]
theorem exS2 (k m:Int) (s:ByteArray) (x y:T):exS (.node k s m [x,y])=lay k s m (xdQ x) (exS x) (xdQ y) (exS y):=by simp [exS,exSs]
/-- A formed expression. -/
def Good1 (t:T):Prop:=xeQ t=true∧1≤xdQ t∧xdQ t≤8
def Good (t:T):Prop:=xeQ t=true∧(1≤xdQ t∧xdQ t≤8∨11≤xdQ t∧xdQ t≤16)
theorem Good1.good {t:T} (h:Good1 t):Good t:=⟨h.1,.inl h.2⟩
theorem xpQ {k m:Int} {s:ByteArray} {kk:List T} (h:xeQ (.node k s m kk)=true):xfQ k s kk.length=true∧xVQ k m=true∧∀ (j:Nat) (t:T),kk[j]?=some t→(kidI k kk.length j (xdQ t) && xeQ t)=true:=by
 rw [show xeQ (.node k s m kk)=(xfQ k s kk.length && xVQ k m && yaQ k kk.length 0 kk) by simp only [xeQ]] at h
 simp only [Bool.and_eq_true] at h
 obtain ⟨⟨h1,h2⟩,h3⟩:=h
 exact ⟨h1,h2,fun j t ht=>by have:=(xJQ _ _ _ _).1 h3 j t ht;rwa [Nat.zero_add] at this⟩
theorem nameB_le (s:ByteArray) (h:xBQ s=true):s.size≤8:=by
 have hp:nameP s:=by simpa [xBQ] using h
 exact hp.2.1
theorem ySQ {k:Int} {s:ByteArray} {n:Nat} (h:xfQ k s n=true):s.size≤8:=by
 unfold xfQ at h
 generalize xuQ k=sh at h
 obtain ⟨ks,nm,sm⟩:=sh
 simp at h
 cases nm with
 | true=>exact nameB_le s (by simpa using h.1.2)
 | false =>
  have:=h.1.1.2
  simp at this
  rw [this]
  exact Nat.zero_le _
inductive Shp (k m:Int) (kk:List T):Prop
 | num (h:k=1) (hk:kk=[]) (h0:0≤m) (h1:m≤1000000)
 | var (h:k=2) (hk:kk=[])
 | len (h:k=4) (hk:kk=[])
 | cell (h:k=3) (x:T) (hk:kk=[x]) (hx:Good1 x)
 | neg (h:k=5) (x:T) (hk:kk=[x]) (hx:Good1 x)
 | pair (h:k=6∨k=7∨k=8) (x y:T) (hk:kk=[x,y]) (hx:Good1 x) (hy:Good1 y)
 | cond (h:11≤k∧k≤16) (x y:T) (hk:kk=[x,y]) (hx:Good1 x) (hy:Good1 y)
theorem x5Q {x lo hi:Int} (h:betw x lo hi=true):lo≤x∧x≤hi:=by simpa [betw] using h
theorem xOQ {k m:Int} {s:ByteArray} {kk:List T} (h:Good (.node k s m kk)):s.size≤8∧Shp k m kk:=by
 obtain ⟨h1,h2⟩:=h
 obtain ⟨hh,hn,hk⟩:=xpQ h1
 refine ⟨ySQ hh,?_⟩
 have h2':1≤k∧k≤8∨11≤k∧k≤16:=h2
 have kid:∀ (j:Nat) (t:T),kk[j]?=some t→(k≠24∧k≠25∧k≠27∧k≠26∧k≠30∧k≠40)→Good1 t:=by
  rintro j t ht ⟨a1,a2,a3,a4,a5,a6⟩
  have:=hk j t ht
  rw [show kidI k kk.length j (xdQ t)=betw (xdQ t) 1 8 by simp [kidI,a1,a2,a3,a4,a5,a6]] at this
  simp only [Bool.and_eq_true] at this
  exact ⟨this.2,x5Q this.1⟩
 have none:k≠24∧k≠25∧k≠27∧k≠26∧k≠30∧k≠40:=by omega
 have ar:∀ (n:Int) (b:Bool),xuQ k=(n,b,true)→0≤n→(kk.length:Int)=n:=by
  intro n b e h0
  unfold xfQ at hh
  rw [e] at hh
  simp at hh
  omega
 have one:kk.length=1→∃ x,kk=[x]∧Good1 x:=fun e=>by
  obtain ⟨x,hx⟩:=List.length_eq_one_iff.1 e
  exact ⟨x,hx,kid 0 x (by rw [hx];rfl) none⟩
 have two:kk.length=2→∃ x y,kk=[x,y]∧Good1 x∧Good1 y:=fun e=>by
  obtain ⟨x,y,hx⟩:∃ x y,kk=[x,y]:=by
   match kk,e with
   | [x,y],_=>exact ⟨x,y,rfl⟩
  exact ⟨x,y,hx,kid 0 x (by rw [hx];rfl) none,kid 1 y (by rw [hx];rfl) none⟩
 by_cases e1:k=1
 ·have hl:=ar 0 false (by rw [e1];rfl) (by decide)
  rw [show xVQ k m=betw m 0 1000000 by simp [xVQ,e1]] at hn
  exact .num e1 (List.length_eq_zero_iff.1 (by omega)) (x5Q hn).1 (x5Q hn).2
 by_cases e2:k=2
 ·have hl:=ar 0 true (by rw [e2];rfl) (by decide)
  exact .var e2 (List.length_eq_zero_iff.1 (by omega))
 by_cases e4:k=4
 ·have hl:=ar 0 true (by rw [e4];rfl) (by decide)
  exact .len e4 (List.length_eq_zero_iff.1 (by omega))
 by_cases e3:k=3
 ·have hl:=ar 1 true (by rw [e3];rfl) (by decide)
  obtain ⟨x,hx,gx⟩:=one (by omega)
  exact .cell e3 x hx gx
 by_cases e5:k=5
 ·have hl:=ar 1 false (by rw [e5];rfl) (by decide)
  obtain ⟨x,hx,gx⟩:=one (by omega)
  exact .neg e5 x hx gx
 by_cases e6:k=6
 ·have hl:=ar 2 false (by rw [e6];rfl) (by decide)
  obtain ⟨x,y,hx,gx,gy⟩:=two (by omega)
  exact .pair (by omega) x y hx gx gy
 by_cases e7:k=7
 ·have hl:=ar 2 false (by rw [e7];rfl) (by decide)
  obtain ⟨x,y,hx,gx,gy⟩:=two (by omega)
  exact .pair (by omega) x y hx gx gy
 by_cases e8:k=8
 ·have hl:=ar 2 false (by rw [e8];rfl) (by decide)
  obtain ⟨x,y,hx,gx,gy⟩:=two (by omega)
  exact .pair (by omega) x y hx gx gy
 ·have hk':k=11∨k=12∨k=13∨k=14∨k=15∨k=16:=by omega
  have hs:xuQ k=(2,false,true):=by rcases hk' with rfl | rfl | rfl | rfl | rfl | rfl <;> rfl
  have hl:=ar 2 false hs (by decide)
  obtain ⟨x,y,hx,gx,gy⟩:=two (by omega)
  exact .cond (by omega) x y hx gx gy
theorem yTQ (k:Int) (s:ByteArray) (l:Int):(par k s l).size≤s.size+2:=by
 unfold par
 split
 ·rw [ByteArray.size_append,ByteArray.size_append]
  have e1:(ByteArray.mk #[40]).size=1:=rfl
  have e2:(ByteArray.mk #[41]).size=1:=rfl
  omega
 ·omega
theorem sign_size (k:Int):(ycQ k).size≤2:=by
 unfold ycQ
 repeat' split
 all_goals decide
theorem lay_size (k m:Int) (s:ByteArray) (ka:Int) (a:ByteArray) (kb:Int) (b:ByteArray) (hs:s.size≤8) (hm:m≤1000000):(lay k s m ka a kb b).size≤2000000+a.size+b.size:=by
 have d:=dec_size m.toNat
 have p1:=yTQ ka a 1
 have p2:=yTQ ka a 2
 have p3:=yTQ ka a 3
 have q2:=yTQ kb b 2
 have q3:=yTQ kb b 3
 have sg:=sign_size k
 unfold lay
 repeat' split
 all_goals try simp only [ByteArray.size_append]
 all_goals try simp only [show (ByteArray.mk #[91]).size=1 from rfl,show (ByteArray.mk #[93]).size=1 from rfl,show (ByteArray.mk #[41]).size=1 from rfl,show (ByteArray.mk #[45]).size=1 from rfl,show (ByteArray.mk #[32]).size=1 from rfl,show (ByteArray.mk #[108,101,110,40]).size=4 from rfl,show (ByteArray.mk #[32,43,32]).size=3 from rfl,show (ByteArray.mk #[32,45,32]).size=3 from rfl,show (ByteArray.mk #[32,42,32]).size=3 from rfl]
 all_goals omega
theorem xGQ (t:T):Good t→(exS t).size≤2000000 * cnt t:=by
 refine T.induct (P:=fun t=>Good t→(exS t).size≤2000000 * cnt t) ?_ t
 intro k s m kk IH hg
 obtain ⟨hs,sh⟩:=xOQ hg
 have hm:m≤1000000:=by
  have:=(xpQ hg.1).2.1
  unfold xVQ at this
  split at this
  ·exact (x5Q this).2
  ·split at this
   ·exact (x5Q this).2
   ·simp at this
    omega
 have z:(ByteArray.mk #[]).size=0:=rfl
 have L:=fun ka a kb b=>lay_size k m s ka a kb b hs hm
 cases sh with
 | num h hk h0 h1=>subst hk;rw [exS0];have:=L 0 ⟨#[]⟩ 0 ⟨#[]⟩;simp only [cnt,cnts];omega
 | var h hk=>subst hk;rw [exS0];have:=L 0 ⟨#[]⟩ 0 ⟨#[]⟩;simp only [cnt,cnts];omega
 | len h hk=>subst hk;rw [exS0];have:=L 0 ⟨#[]⟩ 0 ⟨#[]⟩;simp only [cnt,cnts];omega
 | cell h x hk hx=>subst hk;rw [exS1];have:=L (xdQ x) (exS x) 0 ⟨#[]⟩;have:=IH x (by simp) hx.good;simp only [cnt,cnts];omega
 | neg h x hk hx=>subst hk;rw [exS1];have:=L (xdQ x) (exS x) 0 ⟨#[]⟩;have:=IH x (by simp) hx.good;simp only [cnt,cnts];omega
 | pair h x y hk hx hy=>subst hk;rw [exS2];have:=L (xdQ x) (exS x) (xdQ y) (exS y);have:=IH x (by simp) hx.good;have:=IH y (by simp) hy.good;simp only [cnt,cnts];omega
 | cond h x y hk hx hy=>subst hk;rw [exS2];have:=L (xdQ x) (exS x) (xdQ y) (exS y);have:=IH x (by simp) hx.good;have:=IH y (by simp) hy.good;simp only [cnt,cnts];omega
end Go.Proofs.YtocbgbkdlfkjjaaGreatDoor
