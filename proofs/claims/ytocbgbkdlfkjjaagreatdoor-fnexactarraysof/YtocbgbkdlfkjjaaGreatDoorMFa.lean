/- ROWS OF STRINGS; CONTRACTS of the law's eqStringS, markStringS, heldStringS. -/
import Derived.Test.YtocbgbkdlfkjjaaGreatDoorMDj
import Derived.Test.YtocbgbkdlfkjjaaGreatDoorMCc
import Derived.Test.YtocbgbkdlfkjjaaGreatDoorMSa
import Derived.Deep.QuietTactic
import Derived.BigQuiet
import Derived.Test.YtocbgbkdlfkjjaaGreatDoorMEb
set_option maxRecDepth 100000
set_option maxHeartbeats 6400000
namespace Go.Proofs.YtocbgbkdlfkjjaaGreatDoor
open Go.RowKit
open Pl
theorem strV_len (l:List ByteArray):(strV l).length=l.length:=by simp [strV]
theorem strV_set (l:List ByteArray) (i:Nat) (x:ByteArray):(strV l).set i (.string x)=strV (l.set i x):=by simp [strV]
theorem strV_snoc (l:List ByteArray) (x:ByteArray):strV l++[.string x]=strV (l++[x]):=by simp [strV]
theorem OwnSt.below {w w':World} {base:Nat} {v:Value} {l:List ByteArray} (h:OwnSt w base v l) (hb:Below w.heap.size w w'):OwnSt w' base v l:=zpQ h hb
theorem OwnSt.nil (w:World) (base:Nat):OwnSt w base (.slice none 0 0) []:=⟨rfl,.inl ⟨rfl,rfl⟩⟩
theorem OwnSt.lt {w:World} {base:Nat} {v:Value} {l:List ByteArray} (h:OwnSt w base v l) {q:Nat} (hq:v.ownBlock=some q):base≤q∧q<w.heap.size:=World.ownsRow.lt h q hq
theorem OwnSt.held {w w':World} {base:Nat} {v:Value} {l:List ByteArray} (h:OwnSt w base v l) (hq:∀ q,v.ownBlock=some q→q<w.heap.size→w'.heap[q]?=w.heap[q]?):OwnSt w' base v l:=by
 refine ⟨h.1,?_⟩
 rcases h.2 with h0 | ⟨g,cap,cur,rfl,e2,e3,e4⟩
 ·exact .inl h0
 ·exact .inr ⟨g,cap,cur,rfl,e2,(hq g rfl (xiQ e3)).trans e3,e4⟩
theorem eqStrS_of (l:List ByteArray) (b off c b' off' c':Nat) (w:World) (hn:l.length≤maxLen) (hl:∀ (i:Nat) (x:ByteArray),l[i]?=some x→w.cell? ⟨b,off+i,none⟩=some (.string x)) (hl':∀ (i:Nat) (x:ByteArray),l[i]?=some x→w.cell? ⟨b',off'+i,none⟩=some (.string x)) :
 Calls Tryz.prog 22 #[.slice (some ⟨b,off,none⟩) l.length c,.slice (some ⟨b',off',none⟩) l.length c'] w fun e w'=>e=.returned (.bool true)∧Below w.heap.size w w':=by
 unfold maxLen at hn
 have HL:=xaQ hl
 have HL':=xaQ hl'
 clear hl hl'
 go_enter Tryz.func22,Tryz.ntmps22
 go_wp2
 go_loopw [5] (fun i w'=>∃ (k:Nat),k≤l.length∧i=.int .i64 k∧Below w.heap.size w w') (fun i _=>l.length - (intOf i).toNat)
 case atStart=>exact ⟨0,Nat.zero_le _,rfl,Below.refl _ _⟩
 case round =>
  obtain ⟨k,hk,rfl,hbel⟩:=hrel
  have HB:=xaQ hbel
  by_cases hlt:k<l.length
  ·obtain ⟨x,hx⟩:∃ x,l[k]?=some x:=⟨_,List.getElem?_eq_getElem hlt⟩
   have h1:=HL.out k x hx
   have h2:=HL'.out k x hx
   have hc1:wr.cell? ⟨b,off+k,none⟩=some (.string x):=(hbel.cell (p:=⟨b,off+k,none⟩) (World.block_lt_of_cell? w _ h1)).trans h1
   have hc2:wr.cell? ⟨b',off'+k,none⟩=some (.string x):=(hbel.cell (p:=⟨b',off'+k,none⟩) (World.block_lt_of_cell? w _ h2)).trans h2
   clear hx h1 h2 hbel
   have i0:(0:Int)≤(k:Int):=by omega
   have i1:(k:Int)<(l.length:Int):=by omega
   go_wp2
   go_quiet (fail)
   go_wp2
   go_roundw
   case rel=>exact ⟨k+1,by omega,by go_num,Below.trans HB.out ⟨rfl,rfl,rfl,Nat.le_refl _,fun _ _=>rfl⟩⟩
   case measure=>simp [intOf];omega
  ·go_wp2
   go_ret
   exact ⟨rfl,HB.out⟩
theorem eqStrS_nil (a a':Option Addr) (c c':Nat) (w:World):Calls Tryz.prog 22 #[.slice a 0 c,.slice a' 0 c'] w fun e w'=>e=.returned (.bool true)∧Below w.heap.size w w':=by
 go_enter Tryz.func22,Tryz.ntmps22
 go_wp2
 go_loopw [5] (fun i w'=>i=.int .i64 0∧w'=w) (fun i _=>0)
 case atStart=>exact ⟨rfl,rfl⟩
 case round =>
  obtain ⟨rfl,rfl⟩:=hrel
  go_wp2
  go_ret
  exact ⟨rfl,Below.refl _ _⟩
theorem eqStrS_ok (l:List ByteArray) (a a':Option Addr) (c c':Nat) (w:World) (hn:l.length≤maxLen) (hl:StrsAt w a l) (hl':StrsAt w a' l) :
 Calls Tryz.prog 22 #[.slice a l.length c,.slice a' l.length c'] w fun e w'=>e=.returned (.bool true)∧Below w.heap.size w w':=by
 rcases hl with rfl | ⟨b,o,rfl,hl⟩
 ·exact eqStrS_nil a a' c c' w
 ·rcases hl' with rfl | ⟨b',o',rfl,hl'⟩
  ·exact eqStrS_nil _ a' c c' w
  ·exact eqStrS_of l b o c b' o' c' w hn hl hl'
def marksS (k n:Nat):List ByteArray:=(List.range n).map fun i=>mtI (k+i)
theorem marksS_len (k n:Nat):(marksS k n).length=n:=by simp [marksS]
theorem marksS_get {k n i:Nat} (h:i<n):(marksS k n)[i]?=some (mtI (k+i)):=by simp [marksS,h]
theorem ret_intS {k:IntKind} {a b:Int} (h:a=b):Ending.returned (.int k a)=.returned (.int k b):=by rw [h]
theorem markStrS_of (l:List ByteArray) (g cap base k0:Nat) (w:World) (hn:l.length≤1000000) (h0:1≤k0) (h1:k0≤1000000) (hown:OwnSt w base (.slice (some ⟨g,0,none⟩) l.length cap) l) :
 Calls Tryz.prog 23 #[.slice (some ⟨g,0,none⟩) l.length cap,.int .i64 (k0:Int)] w fun e w'=>e=.returned (.int .i64 ((k0:Int)+l.length))∧OwnSt w' base (.slice (some ⟨g,0,none⟩) l.length cap) (marksS k0 l.length)∧w.grownBy w' (some g):=by
 have HO:=xaQ hown
 clear hown
 go_enter Tryz.func23,Tryz.ntmps23
 go_wp2
 go_loopw [1,5] (fun kv i w'=>∃ (j:Nat) (m:List ByteArray),j≤l.length∧m.length=l.length∧i=.int .i64 j∧kv=.int .i64 ((k0:Int)+(j:Int))∧w'.ownsRow base 9 1 (.slice (some ⟨g,0,none⟩) l.length cap) l.length (strV m)∧(∀ q,q<j→m[q]?=some (mtI (k0+q)))∧w.grownBy w' (some g)) (fun _ i _=>l.length - (intOf i).toNat)
 case atStart=>exact ⟨0,l,Nat.zero_le _,rfl,rfl,by simp,HO.out,fun q hq=>by omega,World.grownBy.refl _ _⟩
 case round =>
  obtain ⟨j,m,hj,hm,rfl,rfl,hown,hmk,hg⟩:=hrel
  have HW:=xaQ hown
  have HM:=xaQ hm
  have HK:=xaQ hmk
  have HG:=xaQ hg
  clear hown hmk hg HO hm
  by_cases hlt:j<l.length
  ·have HMT:=xaQ (fun W=>markText_int ((k0:Int)+(j:Int)) (k0+j) (by omega) W (by omega) (by omega))
   have HLT:=xaQ hlt
   go_wp2_with (go_at_call 52;refine (HMT.out _).mono ?_;rintro e w5 ⟨rfl,hb5⟩;have HB5:=xaQ hb5;have HW5:=xaQ (zpQ HW.out hb5);obtain ⟨v0,c0⟩:∃ v,w5.cell? ⟨g,j,none⟩=some v:=⟨_,(World.ownsRow.cellAt HW5.out j (by omega)).trans (List.getElem?_eq_getElem (by rw [strV_len,HM.out];exact HLT.out))⟩;have f0:=World.ownsRow.frozenAt HW5.out j;clear hb5)
   go_roundw
   case rel =>
    have hs:=World.ownsRow.stored HW5.out j (.string (mtI (k0+j)))
    rw [strV_set] at hs
    refine ⟨j+1,m.set j (mtI (k0+j)),by omega,by simpa using HM.out,by go_num,?_,hs.1,fun q hq=>?_,World.grownBy.trans (World.grownBy.trans HG.out (below_grown HB5.out (some g))) hs.2⟩
    ·first | (congr 1;omega) | congr 1
    ·rw [List.getElem?_set]
     have hml:=HM.out
     rcases (by omega:q<j∨q=j) with h | rfl
     ·rw [if_neg (by omega)];exact HK.out q h
     ·rw [if_pos rfl,if_pos (by omega)]
   case measure=>simp [intOf];omega
  ·have e:j=l.length:=by omega
   subst e
   have em:m=marksS k0 l.length:=by
    apply List.ext_getElem?
    intro q
    by_cases hq:q<l.length
    ·rw [HK.out q hq,marksS_get hq]
    ·rw [List.getElem?_eq_none (by have:=HM.out;omega),List.getElem?_eq_none (by rw [marksS_len];omega)]
   have hw:=HW.out
   rw [em] at hw
   have HW:=xaQ hw
   clear hw em
   go_wp2
   go_ret
   refine ⟨rfl,?_,HG.out⟩
   unfold OwnSt
   rw [marksS_len]
   exact HW.out
theorem markStrS_nil (a:Option Addr) (c:Nat) (k0:Int) (w:World):Calls Tryz.prog 23 #[.slice a 0 c,.int .i64 k0] w fun e w'=>e=.returned (.int .i64 k0)∧w'=w:=by
 go_enter Tryz.func23,Tryz.ntmps23
 go_wp2
 go_loopw [1,5] (fun kv i w'=>i=.int .i64 0∧kv=.int .i64 k0∧w'=w) (fun _ i _=>0)
 case atStart=>exact ⟨rfl,rfl,rfl⟩
 case round =>
  obtain ⟨rfl,rfl,rfl⟩:=hrel
  go_wp2
  go_ret
  exact ⟨rfl,rfl⟩
theorem markStrS_ok (l:List ByteArray) (ao:Option Addr) (cap base k0:Nat) (w:World) (hn:l.length≤1000000) (h0:1≤k0) (h1:k0≤1000000) (hown:OwnSt w base (.slice ao l.length cap) l) :
 Calls Tryz.prog 23 #[.slice ao l.length cap,.int .i64 (k0:Int)] w fun e w'=>e=.returned (.int .i64 ((k0:Int)+l.length))∧OwnSt w' base (.slice ao l.length cap) (marksS k0 l.length)∧w.grownBy w' (Value.ownBlock (.slice ao l.length cap)):=by
 rcases hown.2 with ⟨e,h⟩ | ⟨g,cap',cur,e,_⟩
 ·have hl:=List.length_eq_zero_iff.1 h
  subst hl
  refine (markStrS_nil ao cap k0 w).mono ?_
  rintro e w' ⟨rfl,rfl⟩
  exact ⟨ret_intS (by simp),hown,World.grownBy.refl _ _⟩
 ·simp at e
  obtain ⟨rfl,rfl⟩:=e
  exact markStrS_of l g cap base k0 w hn h0 h1 hown
theorem heldStrS_of (n b off c k0:Nat) (w:World) (hn:n≤1000000) (h0:1≤k0) (h1:k0≤1000000) (hl:∀ (i:Nat) (x:ByteArray),(marksS k0 n)[i]?=some x→w.cell? ⟨b,off+i,none⟩=some (.string x)) :
 Calls Tryz.prog 24 #[.slice (some ⟨b,off,none⟩) n c,.int .i64 (k0:Int)] w fun e w'=>e=.returned (.int .i64 ((k0:Int)+n))∧Below w.heap.size w w':=by
 have HL:=xaQ hl
 clear hl
 go_enter Tryz.func24,Tryz.ntmps24
 go_wp2
 go_loopw [1,5] (fun kv i w'=>∃ (j:Nat),j≤n∧i=.int .i64 j∧kv=.int .i64 ((k0:Int)+(j:Int))∧Below w.heap.size w w') (fun _ i _=>n - (intOf i).toNat)
 case atStart=>exact ⟨0,Nat.zero_le _,rfl,by simp,Below.refl _ _⟩
 case round =>
  obtain ⟨j,hj,rfl,rfl,hbel⟩:=hrel
  have HB:=xaQ hbel
  by_cases hlt:j<n
  ·have h1:=HL.out j _ (marksS_get hlt)
   have c0:=(hbel.cell (p:=⟨b,off+j,none⟩) (World.block_lt_of_cell? w _ h1)).trans h1
   have hlb:=World.block_lt_of_cell? wr _ c0
   have HMT:=xaQ (fun W=>markText_int ((k0:Int)+(j:Int)) (k0+j) (by omega) W (by omega) (by omega))
   have i0:(0:Int)≤(j:Int):=by omega
   have i1:(j:Int)<(n:Int):=by omega
   clear h1 hbel
   go_wp2_with fail
   go_region_held3 (fun u'=>u'.cell? ⟨b,off+j,none⟩=some (.string (mtI (k0+j))))
    (first | exact c0 | exact (hc _ _ hlb).trans c0)
    ((go_at_call 52;refine (HMT.out _).mono ?_;rintro e w5 ⟨rfl,hb5⟩;obtain ⟨hc,hf⟩:=ykQ hb5))
   have HB5:=xaQ (xbQ HB.out.drew hb5)
   clear hc hf hb5
   go_wp2
   go_roundw
   case rel=>exact ⟨j+1,by omega,by go_num,by first | (congr 1;omega) | congr 1,HB5.out⟩
   case measure=>simp [intOf];omega
  ·have e:j=n:=by omega
   subst e
   go_wp2
   go_ret
   exact ⟨rfl,HB.out⟩
theorem heldStrS_nil (a:Option Addr) (c:Nat) (k0:Int) (w:World):Calls Tryz.prog 24 #[.slice a 0 c,.int .i64 k0] w fun e w'=>e=.returned (.int .i64 k0)∧w'=w:=by
 go_enter Tryz.func24,Tryz.ntmps24
 go_wp2
 go_loopw [1,5] (fun kv i w'=>i=.int .i64 0∧kv=.int .i64 k0∧w'=w) (fun _ i _=>0)
 case atStart=>exact ⟨rfl,rfl,rfl⟩
 case round =>
  obtain ⟨rfl,rfl,rfl⟩:=hrel
  go_wp2
  go_ret
  exact ⟨rfl,rfl⟩
theorem heldStrS_ok (n:Nat) (a:Option Addr) (c k0:Nat) (w:World) (hn:n≤1000000) (h0:1≤k0) (h1:k0≤1000000) (hl:StrsAt w a (marksS k0 n)) :
 Calls Tryz.prog 24 #[.slice a n c,.int .i64 (k0:Int)] w fun e w'=>e=.returned (.int .i64 ((k0:Int)+n))∧Below w.heap.size w w':=by
 rcases hl with h | ⟨b,o,rfl,hl⟩
 ·have h':n=0:=by have:=marksS_len k0 n;rw [h] at this;simpa using this.symm
  subst h'
  refine (heldStrS_nil a c k0 w).mono ?_
  rintro e w' ⟨rfl,rfl⟩
  exact ⟨ret_intS (by simp),Below.refl _ _⟩
 ·exact heldStrS_of n b o c k0 w hn h0 h1 hl
end Go.Proofs.YtocbgbkdlfkjjaaGreatDoor
set_option maxRecDepth 100000
namespace Go.Proofs.YtocbgbkdlfkjjaaGreatDoor
open Go.RowKit
open Pl
def zkQ (t:T) (kd:Int):List ByteArray:=if (trb t).1=0 then x5Q (xXQ t).dropLast kd else []
theorem names_decl {k m kd:Int} {s:ByteArray} {kk:List T} (hkd:kd≠30):(declP (.node k s m kk) kd).map yHQ=zkQ (.node k s m kk) kd:=by
 unfold declP zkQ
 by_cases h0:(trb (.node k s m kk)).1=0
 ·rw [if_pos h0,if_pos h0]
  cases hok:okP (.node k s m kk) with
  | false =>
   unfold trb at h0
   rw [hok] at h0
   simp at h0
  | true =>
   obtain ⟨hk40,_,hfm⟩:=zNQ hok
   obtain rfl:k=40:=hk40
   obtain ⟨rfl,rfl,D,B,rfl,_,hBk,_,_⟩:=zEQ hfm
   rw [show xXQ (.node 40 ⟨#[]⟩ 0 (D++[B]))=D++[B] from rfl,List.dropLast_concat,declD_snoc,if_neg (by rw [hBk];exact fun e=>hkd e.symm),List.append_nil]
   rfl
 ·rw [if_neg h0,if_neg h0]
  rfl
theorem decl_short (k m kd:Int) (s:ByteArray) (kk:List T):(declP (.node k s m kk) kd).length≤1000∧∀ t∈declP (.node k s m kk) kd,(yHQ t).size≤8:=by
 unfold declP
 split
 ·rename_i h0
  cases hok:okP (.node k s m kk) with
  | false =>
   unfold trb at h0
   rw [hok] at h0
   simp at h0
  | true =>
   obtain ⟨_,hcm,hfm⟩:=zNQ hok
   have hl:=ywQ kk
   simp only [cnt] at hcm
   have h1:=declD_le kk kd
   refine ⟨by rw [show xXQ (.node k s m kk)=kk from rfl];omega,fun t ht=>?_⟩
   have hm:t∈kk:=(List.mem_filter.1 ht).1
   have:=zaQ hfm hm
   obtain ⟨k',s',m',kk'⟩:=t
   exact yLQ (xnQ this).1
 ·exact ⟨by simp,fun t ht=>(by cases ht)⟩
def NPost (l:List ByteArray) (w:World) (e:Ending) (w':World):Prop:=∃ (ra:Option Addr) (rc:Nat),e=.returned (.slice ra l.length rc)∧OwnSt w' w.heap.size (.slice ra l.length rc) l∧Below w.heap.size w w'
theorem namesOf_any (ts:List T) (da:Option Addr) (dc B:Nat) (cs:List Value) (w:World) (htl:ts.length≤1000) (hsz:∀ t∈ts,(yHQ t).size≤8) (hdo:w.ownsRow B 31 4 (.slice da ts.length dc) ts.length cs) (hrw:Raws ts cs):Calls Tryz.prog 50 #[.slice da ts.length dc] w (NPost (ts.map yHQ) w):=by
 have HDO:=xaQ hdo
 have HRW:=xaQ hrw
 have HSZ:=xaQ hsz
 have HN1:=xaQ (Below.refl w.heap.size w)
 obtain ⟨i0,hi0,hz0⟩:=Option.map_eq_some_iff.1 Tryz.info9s
 simp only [Prod.mk.injEq] at hz0
 obtain ⟨hz1,hz2,hz3⟩:=hz0
 have HI:=xaQ (show Tryz.prog.info? 9=some i0∧i0.zero=some (.string ByteArray.empty)∧i0.size=1∧i0.bytes=16 from ⟨hi0,hz1,hz2,hz3⟩)
 clear hdo hrw hsz hi0 hz1 hz2 hz3
 go_enter Tryz.func50,Tryz.ntmps50
 go_wp2
 go_loopg [3,8] ts.length (fun g s3 s8 wr=>∃ (i:Nat) (ra:Option Addr) (rc:Nat),i+g=ts.length∧s8=.int .i64 i∧s3=.slice ra (ts.take i).length rc∧OwnSt wr w.heap.size (.slice ra (ts.take i).length rc) ((ts.take i).map yHQ)∧Below w.heap.size w wr)
 case atStart=>exact ⟨0,none,0,by omega,rfl,rfl,OwnSt.nil _ _,HN1.out⟩
 case round =>
  obtain ⟨i,ra,rc,hig,rfl,rfl,hos,hbel⟩:=hrel
  have HOS:=xaQ hos
  have HBL:=xaQ hbel
  clear hos HN1
  by_cases hil:i<ts.length
  ·obtain ⟨x,hx⟩:∃ x,ts[i]?=some x:=⟨_,List.getElem?_eq_getElem hil⟩
   have HNS:Hid (ts.take (i+1)=ts.take i++[x]):=xaQ (x4Q hx)
   have hx8:=HSZ.out x (List.mem_of_getElem? hx)
   obtain ⟨gd,rfl,_,_,hrd⟩:=raw_row HDO.out (by omega)
   obtain ⟨e0,e1,e2,xa,xn,xc,e3⟩:=HRW.out.2 i x hx
   have c0:=hrd _ hbel _ _ e0
   have c1:=hrd _ hbel _ _ e1
   have c2:=hrd _ hbel _ _ e2
   have c3:=hrd _ hbel _ _ e3
   obtain ⟨xk,xs,xm,xkk⟩:=x
   have j0:(0:Int)≤(i:Int):=by omega
   have j1:(i:Int)<(ts.length:Int):=by omega
   obtain ⟨g1,rfl⟩:∃ q,gk=q+1:=⟨gk - 1,by omega⟩
   have w3:IntKind.i64.wrap ((i:Int)+1)=(i:Int)+1:=IntWalk.i64_in _ (by omega)
   have hz1:=hbel.size
   have hnl:(ts.take i).length≤1000:=by rw [List.length_take];omega
   have hA:Below wr.heap.size wr (wr.alloc (.cells #[.int .i64 xk,.string xs,.int .i64 xm,.slice xa xn xc] 31)):=(Below.refl _ _).alloc (Nat.le_refl _) _
   have F1:=Four.new wr xk xs xm xa xn xc 31
   obtain ⟨Y,hY⟩:∃ q,wr.heap.size=q:=⟨_,rfl⟩
   obtain ⟨w5,hw5⟩:∃ q,wr.alloc (.cells #[.int .i64 xk,.string xs,.int .i64 xm,.slice xa xn xc] 31)=q:=⟨_,rfl⟩
   rw [hw5] at hA F1
   rw [hY] at F1
   obtain ⟨q0,q1,q2,q3⟩:=F1
   have HA:=xaQ hA
   obtain ⟨NL,hNL⟩:∃ q,(ts.take i).map yHQ=q:=⟨_,rfl⟩
   have hll:(ts.take i).length=NL.length:=by rw [← hNL,List.length_map]
   have HN2:Hid ((ts.take (i+1)).map yHQ=NL++[xs]):=xaQ (by rw [HNS.out,List.map_append,hNL];rfl)
   have HN3:Hid ((ts.take (i+1)).length=NL.length+1):=xaQ (by rw [HNS.out,List.length_append,hll];rfl)
   rw [hNL,hll] at HOS
   rw [hll] at hnl ⊢
   simp only [xdQ,yHQ,numT] at c0 c1 c2 hx8
   have HCL:=xaQ (fun W=>clone_any xs W (by omega))
   clear hx hbel hA hNL hrd e0 e1 e2 e3 hll hx8
   have O5:=xaQ (HOS.out.below HA.out)
   go_wp2_with (first | (go_at_call 45;refine (HCL.out _).mono ?_;rintro e w6 ⟨rfl,hb6⟩;have HB6:=xaQ hb6;have O6:=xaQ (O5.out.below hb6);have OW:=xaQ (World.ownsRow.alloc O6.out (.cells #[.string xs] 9));have hz6:=(xbQ (xbQ HBL.out HA.out) hb6).size;clear hb6) | (at_builtin;refine wpList_append_lies _ rfl _ _ _ rfl w.heap.size 9 i0 _ 1 16 Tryz.underlying38 HI.out.1 HI.out.2.1 HI.out.2.2.1 HI.out.2.2.2 rfl (by decide) _ _ _ rfl OW.out ⟨w6.heap.size,0,none⟩ 1 1 [.string xs] rfl rfl (World.news_of_block (heap_alloc_new w6 _)) (fun u hu=>by simp at hu;rcases hu with rfl;rfl) (by decide) (by unfold maxLen;omega) (by omega) (by simp;omega) (w6.heap.size+1) (by simp) ?_;intro g cq w4 hown hgrow hat hlt4) | go_in)
   clear hw5 hY
   have HOW:Hid (OwnSt w4 w.heap.size (.slice (some ⟨g,0,none⟩) (NL++[xs]).length cq) (NL++[xs])):=xaQ (by
    unfold OwnSt
    rw [List.length_append,← strV_snoc]
    exact hown)
   have HB4:Hid (Below w.heap.size w w4):=xaQ (by
    have b5:=xbQ (xbQ HBL.out HA.out) HB6.out
    exact (b5.alloc b5.size (.cells #[.string xs] 9)).grown hgrow (Nat.le_trans b5.size (by simp)) (fun q e=>(World.ownsRow.lt HOS.out q e).1))
   clear hown hgrow hat OW
   go_wp2
   go_roundg g1
   case rel=>exact ⟨i+1,some ⟨g,0,none⟩,cq,by omega,by simp,by rw [HN3.out],by rw [HN2.out,HN3.out];have:=HOW.out;rwa [List.length_append] at this,HB4.out⟩
   case measure=>omega
  ·have hik:i=ts.length:=by omega
   subst hik
   have j1:¬ (ts.length:Int)<(ts.length:Int):=by omega
   rw [List.take_length] at HOS ⊢
   go_wp2
   go_ret
   refine ⟨ra,rc,by rw [List.length_map];rfl,?_,HBL.out⟩
   rw [List.length_map]
   exact HOS.out
theorem namesP_le (t:T) (kd:Int):(zkQ t kd).length≤1000:=by
 unfold zkQ
 split
 ·rename_i h0
  obtain ⟨k,s,m,kk⟩:=t
  obtain ⟨_,_,_,D,B,rfl,hl,_⟩:=yZQ h0
  have:=cntK_le D kd
  unfold cntK at this
  rw [show (xXQ (.node k s m (D++[B]))).dropLast=D by simp [xXQ]]
  omega
 ·simp
theorem iVars_any (k:Int) (s:ByteArray) (m:Int) (kk:List T) (a:Option Addr) (c:Nat) (w:World) (hs:s.size≤maxLen) (hn:kk.length≤maxLen) (hcap:kk.length≤c) (hc9:c≤maxLen) (hk:Kids w 0 a kk) (htab:Lib.TabIs Tryz.prog w "internal/strconv.uint64pow10" .u64 Lib.pow10Tab)
 (hg:w.cell? ⟨0,0,none⟩=some (.iface 136 (.agg #[.pointer (some ⟨5,59,none⟩)]))):Calls Tryz.prog 21 #[.agg #[.int .i64 k,.string s,.int .i64 m,.slice a kk.length c]] w (NPost (zkQ (.node k s m kk) 31) w):=by
 obtain ⟨gg,hgn⟩:=Option.isSome_iff_exists.1 (show (Tryz.prog.globalNamed "internal/strconv.uint64pow10").isSome=true by kernel_rfl)
 have HD:=xaQ (fun W (hW:Below w.heap.size w W)=>decls_any k s m kk a c 31 W hs hn hcap hc9 (hk.below hW) (Joins.tab_stays hgn htab hW (Nat.le_refl _)) ((hW.cell (p:=⟨0,0,none⟩) (World.block_lt_of_cell? w _ hg)).trans hg))
 have B0:=xaQ ((Below.refl w.heap.size w).alloc (Nat.le_refl _) (.cells #[.int .i64 k,.string s,.int .i64 m,.slice a kk.length c] 31))
 have HSH:=xaQ (decl_short k m 31 s kk)
 rw [← names_decl (by decide)]
 obtain ⟨ts,hts⟩:∃ q,declP (.node k s m kk) 31=q:=⟨_,rfl⟩
 rw [hts] at HD HSH ⊢
 clear hs hn hcap hc9 hk htab hg hgn hts
 go_enter Tryz.func21,Tryz.ntmps21
 go_wp2_with (first | (go_at_call 51;refine (HD.out _ B0.out).mono ?_;rintro e w1 ⟨da,dc,cs,rfl,hdo,hrw,hb1⟩;have B1:=xaQ (xbQ B0.out hb1);have HNO:=xaQ (namesOf_any ts da dc _ cs w1 HSH.out.1 HSH.out.2 hdo hrw);clear hb1 hdo hrw) | (go_at_call 50;refine HNO.out.mono ?_;rintro e w2 ⟨ra,rc,rfl,ho,hb2⟩))
 go_ret
 refine ⟨ra,rc,by rw [List.length_map];rfl,?_,xbQ B1.out hb2⟩
 rw [List.length_map]
 rw [List.length_map] at ho
 exact ownst_mono ho B1.out.size
theorem sVars_any (k:Int) (s:ByteArray) (m:Int) (kk:List T) (a:Option Addr) (c:Nat) (w:World) (hs:s.size≤maxLen) (hn:kk.length≤maxLen) (hcn:cnt (.node k s m kk)≤1048577) (hk:Kids w 0 a kk) :
 Calls Tryz.prog 20 #[.agg #[.int .i64 k,.string s,.int .i64 m,.slice a kk.length c]] w (NPost (zkQ (.node k s m kk) 31) w):=by
 have B0:=xaQ ((Below.refl w.heap.size w).alloc (Nat.le_refl _) (.cells #[.int .i64 k,.string s,.int .i64 m,.slice a kk.length c] 31))
 have F0:=xaQ (Four.new w k s m a kk.length c 31)
 have HR:=xaQ (fun W (hW:Below w.heap.size w W)=>sRight_any k s m kk a c W hs hn hcn (hk.below hW))
 have HK:=xaQ hk
 by_cases h0:(trb (.node k s m kk)).1=0
 ·have HSZ:Hid (zkQ (.node k s m kk) 31=x5Q (xXQ (.node k s m kk)).dropLast 31):=xaQ (by unfold zkQ;rw [if_pos h0])
  rw [decide_eq_true h0] at HR
  obtain ⟨rfl,rfl,rfl,D,B,rfl,hln,_,_⟩:=yZQ h0
  rw [HSZ.out,show (xXQ (.node 40 ⟨#[]⟩ 0 (D++[B]))).dropLast=D by simp [xXQ]]
  have hlen:(D++[B]).length=D.length+1:=by simp
  rw [hlen] at HR F0 B0
  rw [hlen]
  clear hs hn hcn hk h0 HSZ
  go_enter Tryz.func20,Tryz.ntmps20
  go_upto_region 3 with (go_at_call 47;refine (HR.out _ B0.out).mono ?_;rintro e w1 ⟨rfl,hb1⟩)
  have B1:=xaQ (xbQ B0.out hb1)
  obtain ⟨p0,p1,p2,p3⟩:=F0.out.below hb1
  clear hb1
  go_wp2_with (go_at_call 39;refine (zxQ 40 ⟨#[]⟩ 0 31 D B a c _ (by omega) (HK.out.below B1.out)).mono ?_;rintro e w2 ⟨ra,rc,rfl,ho,hb2⟩)
  go_ret
  exact ⟨_,_,rfl,ownst_mono ho B1.out.size,xbQ B1.out hb2⟩
 ·rw [show zkQ (.node k s m kk) 31=[] by unfold zkQ;rw [if_neg h0]]
  rw [decide_eq_false h0] at HR
  clear hs hn hcn hk h0
  go_enter Tryz.func20,Tryz.ntmps20
  go_wp2_with (go_at_call 47;refine (HR.out _ B0.out).mono ?_;rintro e w1 ⟨rfl,hb1⟩)
  go_ret
  have hz:=(xbQ B0.out hb1).size
  exact ⟨_,_,rfl,World.ownsRow_made (e:=9) (size:=1) (base:=w.heap.size) w1 #[] 0 hz (Nat.zero_le _) rfl,(xbQ B0.out hb1).alloc hz _⟩
theorem iArrs_any (k:Int) (s:ByteArray) (m:Int) (kk:List T) (a:Option Addr) (c:Nat) (w:World) (hs:s.size≤maxLen) (hn:kk.length≤maxLen) (hcap:kk.length≤c) (hc9:c≤maxLen) (hk:Kids w 0 a kk) (htab:Lib.TabIs Tryz.prog w "internal/strconv.uint64pow10" .u64 Lib.pow10Tab)
 (hg:w.cell? ⟨0,0,none⟩=some (.iface 136 (.agg #[.pointer (some ⟨5,59,none⟩)]))):Calls Tryz.prog 26 #[.agg #[.int .i64 k,.string s,.int .i64 m,.slice a kk.length c]] w (NPost (zkQ (.node k s m kk) 32) w):=by
 obtain ⟨gg,hgn⟩:=Option.isSome_iff_exists.1 (show (Tryz.prog.globalNamed "internal/strconv.uint64pow10").isSome=true by kernel_rfl)
 have HD:=xaQ (fun W (hW:Below w.heap.size w W)=>decls_any k s m kk a c 32 W hs hn hcap hc9 (hk.below hW) (Joins.tab_stays hgn htab hW (Nat.le_refl _)) ((hW.cell (p:=⟨0,0,none⟩) (World.block_lt_of_cell? w _ hg)).trans hg))
 have B0:=xaQ ((Below.refl w.heap.size w).alloc (Nat.le_refl _) (.cells #[.int .i64 k,.string s,.int .i64 m,.slice a kk.length c] 31))
 have HSH:=xaQ (decl_short k m 32 s kk)
 rw [← names_decl (by decide)]
 obtain ⟨ts,hts⟩:∃ q,declP (.node k s m kk) 32=q:=⟨_,rfl⟩
 rw [hts] at HD HSH ⊢
 clear hs hn hcap hc9 hk htab hg hgn hts
 go_enter Tryz.func26,Tryz.ntmps26
 go_wp2_with (first | (go_at_call 51;refine (HD.out _ B0.out).mono ?_;rintro e w1 ⟨da,dc,cs,rfl,hdo,hrw,hb1⟩;have B1:=xaQ (xbQ B0.out hb1);have HNO:=xaQ (namesOf_any ts da dc _ cs w1 HSH.out.1 HSH.out.2 hdo hrw);clear hb1 hdo hrw) | (go_at_call 50;refine HNO.out.mono ?_;rintro e w2 ⟨ra,rc,rfl,ho,hb2⟩))
 go_ret
 refine ⟨ra,rc,by rw [List.length_map];rfl,?_,xbQ B1.out hb2⟩
 rw [List.length_map]
 rw [List.length_map] at ho
 exact ownst_mono ho B1.out.size
theorem sArrs_any (k:Int) (s:ByteArray) (m:Int) (kk:List T) (a:Option Addr) (c:Nat) (w:World) (hs:s.size≤maxLen) (hn:kk.length≤maxLen) (hcn:cnt (.node k s m kk)≤1048577) (hk:Kids w 0 a kk) :
 Calls Tryz.prog 25 #[.agg #[.int .i64 k,.string s,.int .i64 m,.slice a kk.length c]] w (NPost (zkQ (.node k s m kk) 32) w):=by
 have B0:=xaQ ((Below.refl w.heap.size w).alloc (Nat.le_refl _) (.cells #[.int .i64 k,.string s,.int .i64 m,.slice a kk.length c] 31))
 have F0:=xaQ (Four.new w k s m a kk.length c 31)
 have HR:=xaQ (fun W (hW:Below w.heap.size w W)=>sRight_any k s m kk a c W hs hn hcn (hk.below hW))
 have HK:=xaQ hk
 by_cases h0:(trb (.node k s m kk)).1=0
 ·have HSZ:Hid (zkQ (.node k s m kk) 32=x5Q (xXQ (.node k s m kk)).dropLast 32):=xaQ (by unfold zkQ;rw [if_pos h0])
  rw [decide_eq_true h0] at HR
  obtain ⟨rfl,rfl,rfl,D,B,rfl,hln,_,_⟩:=yZQ h0
  rw [HSZ.out,show (xXQ (.node 40 ⟨#[]⟩ 0 (D++[B]))).dropLast=D by simp [xXQ]]
  have hlen:(D++[B]).length=D.length+1:=by simp
  rw [hlen] at HR F0 B0
  rw [hlen]
  clear hs hn hcn hk h0 HSZ
  go_enter Tryz.func25,Tryz.ntmps25
  go_upto_region 3 with (go_at_call 47;refine (HR.out _ B0.out).mono ?_;rintro e w1 ⟨rfl,hb1⟩)
  have B1:=xaQ (xbQ B0.out hb1)
  obtain ⟨p0,p1,p2,p3⟩:=F0.out.below hb1
  clear hb1
  go_wp2_with (go_at_call 39;refine (zxQ 40 ⟨#[]⟩ 0 32 D B a c _ (by omega) (HK.out.below B1.out)).mono ?_;rintro e w2 ⟨ra,rc,rfl,ho,hb2⟩)
  go_ret
  exact ⟨_,_,rfl,ownst_mono ho B1.out.size,xbQ B1.out hb2⟩
 ·rw [show zkQ (.node k s m kk) 32=[] by unfold zkQ;rw [if_neg h0]]
  rw [decide_eq_false h0] at HR
  clear hs hn hcn hk h0
  go_enter Tryz.func25,Tryz.ntmps25
  go_wp2_with (go_at_call 47;refine (HR.out _ B0.out).mono ?_;rintro e w1 ⟨rfl,hb1⟩)
  go_ret
  have hz:=(xbQ B0.out hb1).size
  exact ⟨_,_,rfl,World.ownsRow_made (e:=9) (size:=1) (base:=w.heap.size) w1 #[] 0 hz (Nat.zero_le _) rfl,(xbQ B0.out hb1).alloc hz _⟩
end Go.Proofs.YtocbgbkdlfkjjaaGreatDoor
