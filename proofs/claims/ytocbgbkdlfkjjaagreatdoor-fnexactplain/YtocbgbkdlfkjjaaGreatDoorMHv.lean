/- THE SPECIFICATION'S READER IN MEMORY; CONTRACTS of its small parts: text, kind, take, need, name. -/
import Derived.Test.YtocbgbkdlfkjjaaGreatDoorMHo
import Derived.Test.YtocbgbkdlfkjjaaGreatDoorMHa
set_option maxRecDepth 100000
set_option maxHeartbeats 1000000
namespace Go.Proofs.YtocbgbkdlfkjjaaGreatDoor
open Go.RowKit
open Pl
structure Sd (w:World) (rb:Nat) (a:Option Addr) (cap:Nat) (ws:List W3) (st:St2):Prop where
 blk:w.heap[rb]?=some (.cells #[.slice a ws.length cap,.int .i64 st.1,.bool st.2] 127 (0,0))
 wds:ws=[]∨∃ g,a=some ⟨g,0,none⟩∧g<rb∧LiesW w g 0 ws
 few:ws.length≤1500
theorem Sd.lt {w:World} {rb:Nat} {a:Option Addr} {cap:Nat} {ws:List W3} {st:St2} (h:Sd w rb a cap ws st):rb<w.heap.size:=(Array.getElem?_eq_some_iff.1 h.blk).1
theorem Sd.of {w w':World} {rb:Nat} {a:Option Addr} {cap:Nat} {ws:List W3} {st st2:St2} (h:Sd w rb a cap ws st) (hs:Step rb w w')
    (hb:w'.heap[rb]?=some (.cells #[.slice a ws.length cap,.int .i64 st2.1,.bool st2.2] 127 (0,0))):Sd w' rb a cap ws st2:=by
 refine ⟨hb,?_,h.few⟩
 rcases h.wds with h1 | ⟨g,h1,h2,h3⟩
 ·exact .inl h1
 ·exact .inr ⟨g,h1,h2,h3.keep (.inr (hs.block g (by have:=h.lt;omega) (by simp;omega)))⟩
theorem Sd.keep {w w':World} {rb:Nat} {a:Option Addr} {cap:Nat} {ws:List W3} {st:St2} (h:Sd w rb a cap ws st) (hb:Below (rb+1) w w'):Sd w' rb a cap ws st:=by
 refine ⟨(hb.block rb (by omega)).trans h.blk,?_,h.few⟩
 rcases h.wds with h1 | ⟨g,h1,h2,h3⟩
 ·exact .inl h1
 ·exact .inr ⟨g,h1,h2,h3.keep (.inr (hb.block g (by omega)))⟩
theorem Sd.alloc {w:World} {rb:Nat} {a:Option Addr} {cap:Nat} {ws:List W3} {st:St2} (h:Sd w rb a cap ws st) (o:Obj):Sd (w.alloc o) rb a cap ws st :=
 h.keep ((Below.refl _ _).alloc h.lt o)
theorem Sd.setCell {w:World} {rb:Nat} {a:Option Addr} {cap:Nat} {ws:List W3} {st:St2} (h:Sd w rb a cap ws st) {p:Addr} (hp:rb<p.block) (u:Value):Sd (w.setCell p u) rb a cap ws st :=
 h.keep ((Below.refl _ _).setCell hp u)
theorem Sd.cells {w:World} {rb:Nat} {a:Option Addr} {cap:Nat} {ws:List W3} {st:St2} (h:Sd w rb a cap ws st) :
    w.cell? ⟨rb,0,none⟩=some (.slice a ws.length cap)∧w.cell? ⟨rb,1,none⟩=some (.int .i64 st.1)∧w.cell? ⟨rb,2,none⟩=some (.bool st.2)∧w.frozen? ⟨rb,1,none⟩=false∧w.frozen? ⟨rb,2,none⟩=false :=
 ⟨by rw [Lib.cell_of_heap h.blk];rfl,by rw [Lib.cell_of_heap h.blk];rfl,by rw [Lib.cell_of_heap h.blk];rfl,Lib.frozen_of_heap h.blk 1,Lib.frozen_of_heap h.blk 2⟩
theorem Sd.word {w:World} {rb:Nat} {a:Option Addr} {cap:Nat} {ws:List W3} {st:St2} (h:Sd w rb a cap ws st) {j:Nat} {x:W3} (hx:ws[j]?=some x) :
    ∃ g,a=some ⟨g,0,none⟩∧w.cell? ⟨g,j * 3,none⟩=some (.int .i64 x.k)∧w.cell? ⟨g,j * 3+1,none⟩=some (.string x.s)∧w.cell? ⟨g,j * 3+2,none⟩=some (.int .i64 x.a):=by
 rcases h.wds with h1 | ⟨g,h1,h2,h3⟩
 ·subst h1;simp at hx
 ·obtain ⟨h4,h5,h6⟩:=h3 j x hx
  rw [Nat.zero_add] at h4 h5 h6
  exact ⟨g,h1,h4,h5,h6⟩
theorem Sd.next {w:World} {rb:Nat} {a:Option Addr} {cap:Nat} {ws:List W3} {st:St2} (h:Sd w rb a cap ws st) (j:Nat):Sd (w.setCell ⟨rb,1,none⟩ (.int .i64 j)) rb a cap ws (j,st.2):=by
 refine h.of ((Step.refl rb w).setCell (.inr rfl) _) ?_
 rw [heap_setCell_same w rb 1 _ 127 _ h.blk];rfl
theorem Sd.badly {w:World} {rb:Nat} {a:Option Addr} {cap:Nat} {ws:List W3} {st:St2} (h:Sd w rb a cap ws st):Sd (w.setCell ⟨rb,2,none⟩ (.bool true)) rb a cap ws (st.1,true):=by
 refine h.of ((Step.refl rb w).setCell (.inr rfl) _) ?_
 rw [heap_setCell_same w rb 2 _ 127 _ h.blk];rfl
theorem Sd.drewN {w:World} {rb:Nat} {a:Option Addr} {cap:Nat} {ws:List W3} {st:St2} (h:Sd w rb a cap ws st) (n:Nat):Sd (w.drewN n) rb a cap ws st :=
 h.keep ⟨rfl,rfl,rfl,Nat.le_refl _,fun _ _=>rfl⟩
theorem Sd.drew {w:World} {rb:Nat} {a:Option Addr} {cap:Nat} {ws:List W3} {st:St2} (h:Sd w rb a cap ws st):Sd w.drew rb a cap ws st:=h.drewN 1
theorem sText_any (rb:Nat) (a:Option Addr) (cap:Nat) (ws:List W3) (st:St2) (w:World) (h:Sd w rb a cap ws st) :
    Calls Tryz.prog 127 #[.pointer (some ⟨rb,0,none⟩)] w fun e w'=>e=.returned (.string (xPQ ws st.1))∧∃ n,w'=w.drewN n:=by
 obtain ⟨c0,c1,c2,_⟩:=h.cells
 have hf:=h.few
 obtain ⟨i,bd⟩:=st
 simp only at c1
 by_cases hlt:i<ws.length
 ·obtain ⟨x,hx⟩:∃ x,ws[i]?=some x:=⟨_,List.getElem?_eq_getElem hlt⟩
  obtain ⟨g,rfl,d0,d1,d2⟩:=h.word hx
  have HW:=xaQ (show xPQ ws i=x.s by unfold xPQ;rw [hx])
  have hl:decide ((i:Int)<(ws.length:Int))=true:=by simp;omega
  have i0:(0:Int)≤(i:Int):=by omega
  have i1:(i:Int)<(ws.length:Int):=by omega
  clear hx h d0 d2 c2
  go_enter Tryz.func127,Tryz.ntmps127
  go_wp2
  go_quiet (fail)
  go_wp2
  go_quiet (fail)
  go_wp2
  go_ret
  exact ⟨xRQ HW.out.symm,_,by first | exact World.drewN_drewN | exact World.drewN_drewN _ _ _⟩
 ·have HW:=xaQ (show xPQ ws i=⟨#[]⟩ from textW_end (by omega))
  have hl:decide ((i:Int)<(ws.length:Int))=false:=by simp;omega
  clear h c2
  go_enter Tryz.func127,Tryz.ntmps127
  go_wp2
  go_quiet (fail)
  go_wp2
  go_ret
  exact ⟨xRQ HW.out.symm,_,rfl⟩
theorem sKindW_any (rb:Nat) (a:Option Addr) (cap:Nat) (ws:List W3) (st:St2) (w:World) (h:Sd w rb a cap ws st) :
    Calls Tryz.prog 125 #[.pointer (some ⟨rb,0,none⟩)] w fun e w'=>e=.returned (.int .i64 (xTQ ws st.1))∧∃ n,w'=w.drewN n:=by
 obtain ⟨c0,c1,c2,_⟩:=h.cells
 have hf:=h.few
 obtain ⟨i,bd⟩:=st
 simp only at c1
 by_cases hlt:i<ws.length
 ·obtain ⟨x,hx⟩:∃ x,ws[i]?=some x:=⟨_,List.getElem?_eq_getElem hlt⟩
  obtain ⟨g,rfl,d0,d1,d2⟩:=h.word hx
  have HW:=xaQ (show xTQ ws i=x.k by unfold xTQ;rw [hx])
  have hl:decide ((i:Int)<(ws.length:Int))=true:=by simp;omega
  have i0:(0:Int)≤(i:Int):=by omega
  have i1:(i:Int)<(ws.length:Int):=by omega
  clear hx h d1 d2 c2
  go_enter Tryz.func125,Tryz.ntmps125
  go_wp2
  go_quiet (fail)
  go_wp2
  go_quiet (fail)
  go_wp2
  go_ret
  exact ⟨xVQ HW.out.symm,_,by first | exact World.drewN_drewN | exact World.drewN_drewN _ _ _⟩
 ·have HW:=xaQ (show xTQ ws i=0 from kindW_end (by omega))
  have hl:decide ((i:Int)<(ws.length:Int))=false:=by simp;omega
  clear h c2
  go_enter Tryz.func125,Tryz.ntmps125
  go_wp2
  go_quiet (fail)
  go_wp2
  go_ret
  exact ⟨xVQ HW.out.symm,_,rfl⟩
theorem sTake_any (rb:Nat) (a:Option Addr) (cap:Nat) (ws:List W3) (st:St2) (s:ByteArray) (hs:s≠⟨#[]⟩) (w:World) (h:Sd w rb a cap ws st) :
    Calls Tryz.prog 122 #[.pointer (some ⟨rb,0,none⟩),.string s] w fun e w'=>e=.returned (.bool (tk ws st s))∧Sd w' rb a cap ws (tkS ws st s)∧Step rb w w':=by
 obtain ⟨c0,c1,c2,f1,f2⟩:=h.cells
 have hf:=h.few
 have HS:=xaQ (sText_any rb a cap ws st w h)
 have HD:=xaQ h
 obtain ⟨i,bd⟩:=st
 simp only at c1 c2
 cases bd with
 | true =>
   have HT:Hid (tk ws (i,true) s=false):=by simp [tk,Hid]
   have HT2:Hid (tkS ws (i,true) s=(i,true)):=by show _=_;unfold tkS;rw [HT.out];rfl
   clear h
   go_enter Tryz.func122,Tryz.ntmps122
   go_wp2
   go_ret
   exact ⟨xyQ HT.out.symm,by rw [HT2.out];exact HD.out,Step.refl _ _⟩
 | false =>
   by_cases hw:isW ws i s=true
   ·have hlt:=yCQ hw
    have HT:Hid (tk ws (i,false) s=true):=by simp [tk,hw,Hid]
    have HT2:Hid (tkS ws (i,false) s=(i+1,false)):=by show _=_;unfold tkS;rw [HT.out];rfl
    have hne:((xPQ ws i).toList == s.toList)=true:=by rw [isW_text hw];simp
    clear h hw
    go_enter Tryz.func122,Tryz.ntmps122
    go_wp2_with fail
    refine HS.out.mono ?_
    rintro e w1 ⟨rfl,n,rfl⟩
    go_wp2
    go_ret
    exact ⟨xyQ HT.out.symm,by rw [HT2.out];have:=(HD.out.drewN n).next (i+1);simpa using this,((Step.refl rb w).drewN n).setCell (.inr rfl) _⟩
   ·have hne:((xPQ ws i).toList == s.toList)=false:=by
      rw [str_eq]
      have:xPQ ws i≠s:=fun e=>by
       by_cases q:i<ws.length
       ·exact hw (by rw [isW_of_text q];simpa using e)
       ·rw [textW_end (by omega)] at e;exact hs e.symm
      simp [this]
    simp only [Bool.not_eq_true] at hw
    have HT:Hid (tk ws (i,false) s=false):=by simp [tk,hw,Hid]
    have HT2:Hid (tkS ws (i,false) s=(i,false)):=by show _=_;unfold tkS;rw [HT.out];rfl
    clear h hw
    go_enter Tryz.func122,Tryz.ntmps122
    go_wp2_with fail
    refine HS.out.mono ?_
    rintro e w1 ⟨rfl,n,rfl⟩
    go_wp2
    go_ret
    exact ⟨xyQ HT.out.symm,by rw [HT2.out];exact HD.out.drewN n,(Step.refl rb w).drewN n⟩
theorem xQQ (rb:Nat) (a:Option Addr) (cap:Nat) (ws:List W3) (st:St2) (s:ByteArray) (hs:s≠⟨#[]⟩) (w:World) (h:Sd w rb a cap ws st) :
    Calls Tryz.prog 124 #[.pointer (some ⟨rb,0,none⟩),.string s] w fun e w'=>e=.returned (.tuple #[])∧Sd w' rb a cap ws (nd ws st s)∧Step rb w w':=by
 have HS:=xaQ (sTake_any rb a cap ws st s hs w h)
 clear h
 by_cases ht:tk ws st s=true
 ·have H1:Hid (tkS ws st s=nd ws st s):=by show _=_;unfold tkS nd;rw [if_pos ht,if_pos ht]
  go_enter Tryz.func124,Tryz.ntmps124
  go_wp2_with fail
  refine HS.out.mono ?_
  rintro e w1 ⟨rfl,r1,s1⟩
  rw [H1.out] at r1
  have R1:=xaQ r1
  have S1:=xaQ s1
  clear r1 s1 H1
  go_wp2
  go_end0
  exact ⟨rfl,R1.out,S1.out⟩
 ·simp only [Bool.not_eq_true] at ht
  have H1:Hid (tkS ws st s=st):=by show _=_;unfold tkS;rw [ht];rfl
  have H2:Hid (nd ws st s=(st.1,true)):=by show _=_;unfold nd;rw [ht];rfl
  go_enter Tryz.func124,Tryz.ntmps124
  go_wp2_with fail
  refine HS.out.mono ?_
  rintro e w1 ⟨rfl,r1,s1⟩
  rw [H1.out] at r1
  obtain ⟨c0,c1,c2,f1,f2⟩:=r1.cells
  have R1:=xaQ r1
  have S1:=xaQ s1
  clear r1 s1 H1
  go_wp2
  go_end0
  exact ⟨rfl,by rw [H2.out];exact R1.out.badly,S1.out.setCell (.inr rfl) _⟩
theorem sNm_any (rb:Nat) (a:Option Addr) (cap:Nat) (ws:List W3) (st:St2) (w:World) (h:Sd w rb a cap ws st) :
    Calls Tryz.prog 123 #[.pointer (some ⟨rb,0,none⟩)] w fun e w'=>e=.returned (.string (nmT ws st))∧Sd w' rb a cap ws (nmS ws st)∧Step rb w w':=by
 obtain ⟨c0,c1,c2,f1,f2⟩:=h.cells
 have hf:=h.few
 have HS:=xaQ (sKindW_any rb a cap ws st w h)
 have HD:=xaQ h
 obtain ⟨i,bd⟩:=st
 simp only at c1 c2
 cases bd with
 | true =>
   have HT:Hid (nmT ws (i,true)=⟨#[]⟩):=by simp [nmT,nmB,Hid]
   have HT2:Hid (nmS ws (i,true)=(i,true)):=by simp [nmS,nmB,Hid]
   clear h
   go_enter Tryz.func123,Tryz.ntmps123
   go_wp2
   go_ret
   exact ⟨xRQ HT.out.symm,by rw [HT2.out];exact HD.out.badly,(Step.refl rb w).setCell (.inr rfl) _⟩
 | false =>
   by_cases hw:xTQ ws i=1
   ·have hlt:=kindW_lt hw (by decide)
    obtain ⟨x,hx⟩:∃ x,ws[i]?=some x:=⟨_,List.getElem?_eq_getElem hlt⟩
    have HT:Hid (nmT ws (i,false)=x.s):=by show _=_;unfold nmT nmB;simp only;rw [hw];simp only [xPQ,hx];rfl
    have HT2:Hid (nmS ws (i,false)=(i+1,false)):=by simp [nmS,nmB,hw,Hid]
    have h2:=fun n=>((h.drewN n).next (i+1))
    have HX:=xaQ hx
    have hne:(xTQ ws i != 1)=false:=by rw [hw];rfl
    clear h hw hx
    go_enter Tryz.func123,Tryz.ntmps123
    go_wp2_with fail
    refine HS.out.mono ?_
    rintro e w1 ⟨rfl,n,rfl⟩
    have h3:=h2 n
    clear h2
    obtain ⟨e0,e1,_,_⟩:=h3.cells
    obtain ⟨g,hg,_,d1,_⟩:=h3.word HX.out
    subst hg
    have H3:=xaQ h3
    have i1:(i:Int)<(ws.length:Int):=by omega
    have i0:(0:Int)≤(i:Int):=by omega
    clear h3
    push_cast at e0 e1 d1
    go_wp2
    go_quiet (fail)
    go_wp2
    go_ret
    exact ⟨xRQ HT.out.symm,by rw [HT2.out];have:=H3.out.drewN nq;simpa using this,(((Step.refl rb w).drewN n).setCell (.inr rfl) _).drewN nq⟩
   ·have HT:Hid (nmT ws (i,false)=⟨#[]⟩):=by simp [nmT,nmB,hw,Hid]
    have HT2:Hid (nmS ws (i,false)=(i,true)):=by simp [nmS,nmB,hw,Hid]
    have hne:(xTQ ws i != 1)=true:=by simpa using hw
    clear h hw
    go_enter Tryz.func123,Tryz.ntmps123
    go_wp2_with fail
    refine HS.out.mono ?_
    rintro e w1 ⟨rfl,n,rfl⟩
    go_wp2
    go_ret
    exact ⟨xRQ HT.out.symm,by rw [HT2.out];exact (HD.out.drewN n).badly,((Step.refl rb w).drewN n).setCell (.inr rfl) _⟩
def zcQ (rb:Nat) (a:Option Addr) (cap:Nat) (ws:List W3) (w:World) (r:Res) (st:St2) (e:Ending) (w':World):Prop :=
 ∃ (x:A) (st':St2),e=.returned x.val∧Sits w' x∧New w.heap.size x∧Sd w' rb a cap ws st'∧Step rb w w'∧SR r st x.erase st'
section
variable {rb:Nat} {a:Option Addr} {cap:Nat} {ws:List W3}
theorem zvQ {w:World} {st:St2} (h:Sd w rb a cap ws st) {p:Nat} (hp:rb<p) (v0 v1 v2 v3:Value):Sd (put4 w p v0 v1 v2 v3) rb a cap ws st :=
 (((h.setCell (p:=⟨p,0,none⟩) hp _).setCell (p:=⟨p,1,none⟩) hp _).setCell (p:=⟨p,2,none⟩) hp _).setCell (p:=⟨p,3,none⟩) hp _
theorem yGQ {w w2:World} {n:Nat} {r:Res} {st st':St2} (x:A) (v0 v1 v2 v3:Value) (hd:Sd w2 rb a cap ws st') (hrb:rb<w.heap.size) (hst:Step rb w w2) (hx:Sits w2 x) (hn:New n x) (hlt:w.heap.size<n) (hr:SR r st x.erase st') :
    zcQ rb a cap ws w r st (.returned x.val) (put4 w2 w.heap.size v0 v1 v2 v3) :=
 ⟨x,st',rfl,Sits.stay x (fun q hq=>xLQ _ _ _ _ (by have:=hn.2 q hq;omega)) hx,hn.mono (by omega),zvQ hd hrb _ _ _ _,yzQ hst (Nat.le_refl _) _ _ _ _,hr⟩
theorem sp_leaf {w w2:World} {r:Res} {st st':St2} (k m:Int) (s:ByteArray) (hd:Sd w2 rb a cap ws st') (hrb:rb<w.heap.size) (hst:Step rb w w2) (hs:s.size≤maxLen) (hr:SR r st (.node k s m []) st') :
    zcQ rb a cap ws w r st (.returned (A.node k s m none 0 []).val) (put4 w2 w.heap.size (.int .i64 k) (.string s) (.int .i64 m) (.slice none 0 0)) :=
 ⟨_,st',rfl,Sits.leaf _ _ _ hs,New.leaf _ _ _ _ _ _,zvQ hd hrb _ _ _ _,yzQ hst (Nat.le_refl _) _ _ _ _,by rw [erase0];exact hr⟩
theorem made {w w':World} {n b c:Nat} {xs:List A} {k m:Int} {s:ByteArray} (hs:SitsL w xs) (hb:Below w.heap.size w w') (hB:w'.heap[b]?=some (.cells (xqQ xs).toArray 31 (0,0))) (hge:w.heap.size≤b) (hn:NewL n xs) (hle:n≤w.heap.size)
    (hz:s.size≤maxLen) (hl:xs.length≤maxLen):Sits w' (.node k s m (some ⟨b,0,none⟩) c xs)∧New n (.node k s m (some ⟨b,0,none⟩) c xs):=by
 have hlt:=SitsL.lt hs
 refine ⟨Sits.node hz hl (hs.stay fun q hq=>hb.block q (hlt q hq)) hB (fun i v hv=>by simpa using hv),New.node hn (by omega) (fun q=>?_)⟩
 have:=hlt _ q
 omega
end
theorem third_new (w:World) (o1 o2:Obj) (cs:Array Value) (e:TypeId):(((w.alloc o1).alloc o2).alloc (.cells cs e)).heap[w.heap.size+1+1]?=some (.cells cs e (0,0)):=by
 have h:=heap_alloc_new ((w.alloc o1).alloc o2) (.cells cs e)
 rw [show ((w.alloc o1).alloc o2).heap.size=w.heap.size+1+1 by simp] at h
 exact h
theorem fourth_new (w:World) (o1 o2 o3:Obj) (cs:Array Value) (e:TypeId):((((w.alloc o1).alloc o2).alloc o3).alloc (.cells cs e)).heap[w.heap.size+1+1+1]?=some (.cells cs e (0,0)):=by
 have h:=heap_alloc_new (((w.alloc o1).alloc o2).alloc o3) (.cells cs e)
 rw [show (((w.alloc o1).alloc o2).alloc o3).heap.size=w.heap.size+1+1+1 by simp] at h
 exact h
theorem one_new (k:Int) (x:A) (w:World):Calls Tryz.prog 129 #[.int .i64 k,x.val] w fun e w' =>
    ∃ b,e=.returned (A.node k ⟨#[]⟩ 0 (some ⟨b,0,none⟩) 1 [x]).val∧w'.heap[b]?=some (.cells (xqQ [x]).toArray 31 (0,0))∧w.heap.size≤b∧Below w.heap.size w w':=by
 obtain ⟨xk,xs,xm,xa,xc,xkk⟩:=x
 simp only [A.val]
 go_enter Tryz.func129,Tryz.ntmps129
 go_wp2
 exact bodyPost_ret (v:=.agg #[.int .i64 k,.string ⟨#[]⟩,.int .i64 0,.slice (some ⟨w.heap.size+1+1,0,none⟩) 1 1]) (by simp [results,Tryz.results129,go_sem]) rfl
  ⟨w.heap.size+1+1,rfl,third_new _ _ _ _ _,by omega,(((Below.refl _ _).alloc (Nat.le_refl _) _).alloc (by simp) _).alloc (by simp;omega) _⟩
theorem two_new (k:Int) (x y:A) (w:World):Calls Tryz.prog 96 #[.int .i64 k,x.val,y.val] w fun e w' =>
    ∃ b,e=.returned (A.node k ⟨#[]⟩ 0 (some ⟨b,0,none⟩) 2 [x,y]).val∧w'.heap[b]?=some (.cells (xqQ [x,y]).toArray 31 (0,0))∧w.heap.size≤b∧Below w.heap.size w w':=by
 obtain ⟨xk,xs,xm,xa,xc,xkk⟩:=x
 obtain ⟨yk,ys,ym,ya,yc,ykk⟩:=y
 simp only [A.val]
 go_enter Tryz.func96,Tryz.ntmps96
 go_wp2
 exact bodyPost_ret (v:=.agg #[.int .i64 k,.string ⟨#[]⟩,.int .i64 0,.slice (some ⟨w.heap.size+1+1+1,0,none⟩) 2 2]) (by simp [results,Tryz.results96,go_sem]) rfl
  ⟨w.heap.size+1+1+1,rfl,fourth_new _ _ _ _ _ _,by omega,((((Below.refl _ _).alloc (Nat.le_refl _) _).alloc (by simp) _).alloc (by simp;omega) _).alloc (by simp;omega) _⟩
structure Env (ws:List W3):Prop where
 ok:WsOk ws
 few:ws.length≤1500
 short:∀ x∈ws,x.s.size≤4000
theorem Env.text {ws:List W3} (h:Env ws) (i:Nat):(xPQ ws i).size≤maxLen:=by
 unfold xPQ maxLen
 by_cases q:i<ws.length
 ·rw [List.getElem?_eq_getElem q]
  have:=h.short _ (List.getElem_mem q)
  simp only
  omega
 ·rw [List.getElem?_eq_none (by omega)]
  exact Nat.zero_le _
end Go.Proofs.YtocbgbkdlfkjjaaGreatDoor
