/- CONTRACTS of the program's declKind, checkCounts. -/
import Derived.Test.YtocbgbkdlfkjjaaGreatDoorMHh
import Derived.Test.YtocbgbkdlfkjjaaGreatDoorMHn
import Derived.Deep.LoopGhost
set_option maxRecDepth 100000
set_option maxHeartbeats 3200000
namespace Go.Proofs.YtocbgbkdlfkjjaaGreatDoor
open Go.RowKit
open Pl
theorem declKind_any (k:Int) (w:World):Calls Tryz.prog 133 #[.int .i64 k] w fun e w'=>e=.returned (.int .i64 (declK k))∧w=w':=by
 by_cases h2:k=2
 ·subst h2
  go_enter Tryz.func133,Tryz.ntmps133
  go_wp2
  go_ret
  exact ⟨rfl,rfl⟩
 by_cases h21:k=21
 ·subst h21
  go_enter Tryz.func133,Tryz.ntmps133
  go_wp2
  go_ret
  exact ⟨rfl,rfl⟩
 by_cases h23:k=23
 ·subst h23
  go_enter Tryz.func133,Tryz.ntmps133
  go_wp2
  go_ret
  exact ⟨rfl,rfl⟩
 by_cases h26:k=26
 ·subst h26
  go_enter Tryz.func133,Tryz.ntmps133
  go_wp2
  go_ret
  exact ⟨rfl,rfl⟩
 by_cases h3:k=3
 ·subst h3
  go_enter Tryz.func133,Tryz.ntmps133
  go_wp2
  go_ret
  exact ⟨rfl,rfl⟩
 by_cases h4:k=4
 ·subst h4
  go_enter Tryz.func133,Tryz.ntmps133
  go_wp2
  go_ret
  exact ⟨rfl,rfl⟩
 by_cases h22:k=22
 ·subst h22
  go_enter Tryz.func133,Tryz.ntmps133
  go_wp2
  go_ret
  exact ⟨rfl,rfl⟩
 have e2:(k == 2)=false:=by simpa using h2
 have e21:(k == 21)=false:=by simpa using h21
 have e23:(k == 23)=false:=by simpa using h23
 have e26:(k == 26)=false:=by simpa using h26
 have e3:(k == 3)=false:=by simpa using h3
 have e4:(k == 4)=false:=by simpa using h4
 have e22:(k == 22)=false:=by simpa using h22
 rw [show declK k=0 by simp [declK,h2,h21,h23,h26,h3,h4,h22]]
 go_enter Tryz.func133,Tryz.ntmps133
 go_wp2
 go_ret
 exact ⟨rfl,rfl⟩
def errV (c:Int) (s:ByteArray):Value:=.iface 63 (.agg #[.int .i64 c,.string s])
theorem cntK_take {D:List T} {i:Nat} {t:T} (h:D[i]?=some t) (k:Int):cntK (D.take (i+1)) k=cntK (D.take i) k+(if xdQ t=k then 1 else 0):=by rw [x4Q h,cntK_snoc]
theorem mxD_take {D:List T} {i:Nat} {t:T} (h:D[i]?=some t):mxD (D.take (i+1))=if xdQ t=32 then max (mxD (D.take i)) (numT t) else mxD (D.take i):=by rw [x4Q h,mxD_snoc]
theorem yqQ {w w':World} {a:Option Addr} {D:List T} {i:Nat} {k m:Int} {s:ByteArray} {kk:List T} (hk:Kids w 0 a D) (hb:Below w.heap.size w w') (hx:D[i]?=some (.node k s m kk)) :
 ∃ (b o:Nat) (xa:Option Addr) (xc:Nat),a=some ⟨b,o,none⟩∧w'.cell? ⟨b,o+i * 4,none⟩=some (.int .i64 k)∧w'.cell? ⟨b,o+i * 4+1,none⟩=some (.string s)∧w'.cell? ⟨b,o+i * 4+2,none⟩=some (.int .i64 m)∧w'.cell? ⟨b,o+i * 4+3,none⟩=some (.slice xa kk.length xc)∧s.size≤maxLen∧kk.length≤maxLen∧Kids w' 0 xa kk:=by
 rcases hk.below hb with rfl | ⟨b,o,rfl,_,hll⟩
 ·simp at hx
 ·obtain ⟨xa,xc,h⟩:=hll.at hx
  exact ⟨b,o,xa,xc,rfl,h⟩
def manyP (D:List T):Bool:=decide (8<cntK D 31) || decide (4<cntK D 32) || decide (60<mxD D)
theorem counts_any (D:List T) (a:Option Addr) (c:Nat) (w:World) (hn:D.length≤1000) (hk:Kids w 0 a D) (hd:Dk D) :
 Calls Tryz.prog 70 #[.slice a D.length c] w fun e w'=>e=.returned (if manyP D=true then errV 3 ⟨#[]⟩ else .nilIface)∧Below w.heap.size w w':=by
 have HK:=xaQ hk
 have HD:=xaQ hd
 obtain ⟨r,hr⟩:∃ r,manyP D=r:=⟨_,rfl⟩
 have HR:=xaQ hr
 rw [hr]
 clear hk hd hr
 go_enter Tryz.func70,Tryz.ntmps70
 go_wp2
 go_loopg [3,4,5,10] D.length (fun g s3 s4 s5 s10 wr=>∃ (k:Nat),k+g=D.length∧s10=.int .i64 k∧s3=.int .i64 (cntK (D.take k) 31:Nat)∧s4=.int .i64 (cntK (D.take k) 32:Nat)∧s5=.int .i64 (mxD (D.take k))∧Below w.heap.size w wr)
 case atStart=>exact ⟨0,by omega,rfl,rfl,rfl,rfl,Below.refl _ _⟩
 case round =>
  obtain ⟨k,hkg,rfl,rfl,rfl,rfl,hbel⟩:=hrel
  have HB:=xaQ hbel
  have hv:=cntK_le (D.take k) 31
  have ha:=cntK_le (D.take k) 32
  rw [List.length_take] at hv ha
  by_cases hlt:k<D.length
  ·obtain ⟨x,hx⟩:∃ x,D[k]?=some x:=⟨_,List.getElem?_eq_getElem hlt⟩
   have HX:=xaQ hx
   have h1:=cntK_take hx 31
   have h2:=cntK_take hx 32
   have h3:=mxD_take hx
   have hkd:=HD.out x (List.mem_of_getElem? hx)
   obtain ⟨xk,xs,xm,xkk⟩:=x
   obtain ⟨b,o,xa,xc,rfl,c0,c1,c2,c3,_,_,_⟩:=yqQ HK.out hbel hx
   have i0:(0:Int)≤(k:Int):=by omega
   have i1:(k:Int)<(D.length:Int):=by omega
   have HB2:=xaQ (hbel.alloc hbel.size (.cells #[.int .i64 xk,.string xs,.int .i64 xm,.slice xa xkk.length xc] 31))
   obtain ⟨g1,rfl⟩:∃ q,gk=q+1:=⟨gk - 1,by omega⟩
   obtain ⟨nv,hnv⟩:∃ q,cntK (D.take k) 31=q:=⟨_,rfl⟩
   obtain ⟨na,hna⟩:∃ q,cntK (D.take k) 32=q:=⟨_,rfl⟩
   obtain ⟨mx,hmx⟩:∃ q,mxD (D.take k)=q:=⟨_,rfl⟩
   rw [hnv] at h1 hv ⊢
   rw [hna] at h2 ha ⊢
   rw [hmx] at h3 ⊢
   have w1:IntKind.i64.wrap ((nv:Int)+1)=(nv:Int)+1:=IntWalk.i64_in _ (by omega)
   have w2:IntKind.i64.wrap ((na:Int)+1)=(na:Int)+1:=IntWalk.i64_in _ (by omega)
   have w3:IntKind.i64.wrap ((k:Int)+1)=(k:Int)+1:=IntWalk.i64_in _ (by omega)
   have kd:xk=31∨xk=32:=hkd
   simp only [xdQ,numT] at h1 h2 h3
   have HH:=xaQ (And.intro h1 (And.intro h2 h3))
   clear hx hbel hkd hnv hna hmx h1 h2 h3 hv ha
   rcases kd with rfl | rfl
   ·go_wp2
    go_roundg g1
    case rel =>
     obtain ⟨e1,e2,e3⟩:=HH.out
     refine ⟨k+1,by omega,by simp,?_,?_,?_,HB2.out⟩
     ·rw [e1];simp
     ·rw [e2];simp
     ·rw [e3];simp
    case measure=>omega
   ·go_wp2
    go_roundg g1
    case rel =>
     obtain ⟨e1,e2,e3⟩:=HH.out
     refine ⟨k+1,by omega,by simp,?_,?_,?_,HB2.out⟩
     ·rw [e1];simp
     ·rw [e2];simp
     ·rw [e3];simp
    case measure=>omega
  ·have hkl:k=D.length:=by omega
   subst hkl
   rw [List.take_length] at hv ha ⊢
   have i1:¬ (D.length:Int)<(D.length:Int):=by omega
   unfold manyP at HR
   obtain ⟨nv,hnv⟩:∃ q,cntK D 31=q:=⟨_,rfl⟩
   obtain ⟨na,hna⟩:∃ q,cntK D 32=q:=⟨_,rfl⟩
   obtain ⟨mx,hmx⟩:∃ q,mxD D=q:=⟨_,rfl⟩
   rw [hnv,hna,hmx] at HR
   rw [hnv,hna,hmx]
   by_cases h8:8<nv
   ·have j8:(8:Int)<(nv:Int):=by omega
    obtain rfl:true=r:=by rw [← HR.out];simp [h8]
    go_wp2
    go_ret
    exact ⟨rfl,HB.out⟩
   ·have j8:¬ (8:Int)<(nv:Int):=by omega
    by_cases h4:4<na
    ·have j4:(4:Int)<(na:Int):=by omega
     obtain rfl:true=r:=by rw [← HR.out];simp [h4]
     go_wp2
     go_ret
     exact ⟨rfl,HB.out⟩
    ·have j4:¬ (4:Int)<(na:Int):=by omega
     by_cases h6:60<mx
     ·obtain rfl:true=r:=by rw [← HR.out];simp [h6]
      go_wp2
      go_ret
      exact ⟨rfl,HB.out⟩
     ·obtain rfl:false=r:=by rw [← HR.out];simp [h8,h4,h6]
      go_wp2
      go_ret
      exact ⟨rfl,HB.out⟩
end Go.Proofs.YtocbgbkdlfkjjaaGreatDoor
