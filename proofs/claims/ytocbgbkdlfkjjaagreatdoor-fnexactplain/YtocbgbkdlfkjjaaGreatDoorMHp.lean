/- THE WORDS OF AN EXPRESSION; its text is read as them. -/
import Derived.Test.YtocbgbkdlfkjjaaGreatDoorMHh
import Derived.Test.YtocbgbkdlfkjjaaGreatDoorMHn
import Derived.Test.YtocbgbkdlfkjjaaGreatDoorMHo
namespace Go.Proofs.YtocbgbkdlfkjjaaGreatDoor
open Go.RowKit
open Pl
theorem sg {s:ByteArray} (h:signs.contains s.data.toList=true):ylQ s=true:=by unfold ylQ;rw [Lib.toList_data];exact h
theorem ky {s:ByteArray} (h:keys.contains s.data.toList=true):keyB s=true:=by unfold keyB;rw [Lib.toList_data];exact h
theorem xgQ (a b:ByteArray):(a++b).data.toList=a.data.toList++b.data.toList:=by simp
theorem byt_app (a b:ByteArray) {k:Nat} (h:k<a.size):byt (a++b) k=byt a k:=by
 rw [yxQ,yxQ,xgQ,List.getD_eq_getElem?_getD,List.getD_eq_getElem?_getD,List.getElem?_append_left (by rw [← Lib.size_eq];exact h)]
theorem byt_last (a:ByteArray) (c:UInt8):byt (a++⟨#[c]⟩) a.size=(c.toNat:Int):=by
 rw [yxQ,xgQ,List.getD_eq_getElem?_getD,List.getElem?_append_right (by rw [← Lib.size_eq];exact Nat.le_refl _),← Lib.size_eq,Nat.sub_self];rfl
theorem val_app (a b:ByteArray) (k:Nat) (h:k≤a.size):val (a++b) k=val a k:=by
 induction k with
 | zero=>rfl
 | succ k ih=>simp only [val];rw [ih (by omega),byt_app _ _ (by omega)]
theorem u8_of {n:Nat} (h:n<256):((UInt8.ofNat n).toNat:Int)=n:=by rw [UInt8.toNat_ofNat'];omega
theorem dec_facts (n:Nat):1≤(dec n).size∧(∀ k,k<(dec n).size→digI (byt (dec n) k)=true)∧(1≤n→byt (dec n) 0≠48)∧val (dec n) (dec n).size=n∧(n<10→(dec n).size=1):=by
 induction n using Nat.strongRecOn with
 | ind n ih =>
  by_cases h:n<10
  ·rw [dec_small h]
   have hb:byt ⟨#[UInt8.ofNat (48+n)]⟩ 0=((48+n:Nat):Int):=by rw [← u8_of (n:=48+n) (by omega)];rfl
   refine ⟨Nat.le_refl _,fun k hk=>?_,fun h1=>?_,?_,fun _=>rfl⟩
   ·have:k=0:=by change k<1 at hk;omega
    subst this
    rw [hb,x7Q];omega
   ·rw [hb];omega
   ·show val _ 1=_
    simp only [val]
    rw [hb];omega
  ·rw [dec_more h]
   obtain ⟨h1,h2,h3,h4,_⟩:=ih (n / 10) (by omega)
   have hz:(dec (n / 10)++⟨#[UInt8.ofNat (48+n % 10)]⟩).size=(dec (n / 10)).size+1:=by rw [ByteArray.size_append];rfl
   have hb:=byt_last (dec (n / 10)) (UInt8.ofNat (48+n % 10))
   rw [u8_of (n:=48+n % 10) (by omega)] at hb
   rw [hz]
   refine ⟨by omega,fun k hk=>?_,fun _=>?_,?_,fun q=>absurd q h⟩
   ·rcases Nat.lt_or_ge k (dec (n / 10)).size with q | q
    ·rw [byt_app _ _ q];exact h2 k q
    ·have:k=(dec (n / 10)).size:=by omega
     subst this
     rw [hb,x7Q];omega
   ·rw [byt_app _ _ (by omega)];exact h3 (by omega)
   ·simp only [val]
    rw [val_app _ _ _ (Nat.le_refl _),h4,hb];omega
theorem dec_num {n : Nat} (h : n ≤ 1000000) : numB (dec n)=true∧numV (dec n)=n:=by
 obtain ⟨h1,h2,h3,h4,h5⟩:=dec_facts n
 have hp : numP (dec n) := ⟨h1, h2, fun hs => h3 (by rcases Nat.lt_or_ge n 10 with q | q
                                                     ·have:=h5 q;omega
                                                     ·omega),by rw [h4];omega⟩
 have hb:numB (dec n)=true:=by simpa [numB] using hp
 exact ⟨hb,by rw [(numV_yes hb).1,h4]⟩
theorem num_kind {s:ByteArray} (h:numB s=true):xAQ s=2:=by
 have hk:=num_not_key h
 have hp:numP s:=by simpa [numB] using h
 have hn:xBQ s=false:=by
  rcases hq:xBQ s with _ | _
  ·rfl
  ·have hp2:zXQ s:=by simpa [xBQ] using hq
   have hd:=hp.2.1 0 (by have:=hp.1;omega)
   rcases hp2.2.2.2 0 (by have:=hp.1;omega) with e | e
   ·rw [x7Q] at hd;rw [low_iff] at e;omega
   ·exact absurd rfl e.1
 unfold xAQ
 rw [hk,hn,h];rfl
theorem yAQ {s:ByteArray} (h:xBQ s=true):xAQ s=1:=by
 unfold xAQ
 rw [name_not_key h,h];rfl
def Hd (l:List UInt8):Prop:=∃ c r,l=c :: r∧c.toNat≠61
theorem Hd.app {l:List UInt8} (h:Hd l) (m:List UInt8):Hd (l++m):=by
 obtain ⟨c,r,rfl,hc⟩:=h
 exact ⟨c,r++m,rfl,hc⟩
theorem Hd.noEq {l:List UInt8} (h:Hd l) (suf:List UInt8):NoEq (l++suf):=by
 obtain ⟨c,r,rfl,hc⟩:=h
 exact .inr ⟨c,r++suf,rfl,hc⟩
theorem hd_of {s:ByteArray} (h:1≤s.size) (h0:byt s 0≠61):Hd s.data.toList:=by
 rw [yxQ] at h0
 rw [Lib.size_eq] at h
 generalize s.data.toList=l at h h0
 cases l with
 | nil=>simp at h
 | cons c r=>exact ⟨c,r,rfl,fun e=>h0 (by simp [e])⟩
theorem hd_num {s:ByteArray} (h:numB s=true):Hd s.data.toList:=by
 have hp:numP s:=by simpa [numB] using h
 have hd:=hp.2.1 0 (by have:=hp.1;omega)
 rw [x7Q] at hd
 exact hd_of hp.1 (by omega)
theorem hd_name {s:ByteArray} (h:xBQ s=true):Hd s.data.toList:=by
 have hp:zXQ s:=by simpa [xBQ] using h
 rcases hp.2.2.2 0 (by have:=hp.1;omega) with e | e
 ·rw [low_iff] at e;exact hd_of hp.1 (by omega)
 ·exact absurd rfl e.1
def parT (k:Int) (t:List ByteArray) (least:Int):List ByteArray:=if yJQ k<least then [⟨#[40]⟩]++t++[⟨#[41]⟩] else t
def layT (k:Int) (s:ByteArray) (m:Int) (ka:Int) (a:List ByteArray) (kb:Int) (b:List ByteArray):List ByteArray :=
 if k=1 then [dec m.toNat] else
 if k=2 then [s] else
 if k=3 then [s]++[⟨#[91]⟩]++a++[⟨#[93]⟩] else
 if k=4 then [⟨#[108,101,110]⟩]++[⟨#[40]⟩]++[s]++[⟨#[41]⟩] else
 if k=5 then [⟨#[45]⟩]++parT ka a 3 else
 if k=6 then parT ka a 1++[⟨#[43]⟩]++parT kb b 2 else
 if k=7 then parT ka a 1++[⟨#[45]⟩]++parT kb b 2 else
 if k=8 then parT ka a 2++[⟨#[42]⟩]++parT kb b 3 else
 a++[yfQ k]++b
def none3:Int × List ByteArray:=(0,[])
mutual
def tE:T→List ByteArray
 | .node k s m kk=>layT k s m ((tEs kk)[0]?.getD none3).1 ((tEs kk)[0]?.getD none3).2 ((tEs kk)[1]?.getD none3).1 ((tEs kk)[1]?.getD none3).2
def tEs:List T→List (Int × List ByteArray)
 | []=>[]
 | t :: r=>(xdQ t,tE t) :: tEs r
end
theorem tE0 (k m:Int) (s:ByteArray):tE (.node k s m [])=layT k s m 0 [] 0 []:=by simp [tE,tEs,none3]
theorem tE1 (k m:Int) (s:ByteArray) (x:T):tE (.node k s m [x])=layT k s m (xdQ x) (tE x) 0 []:=by simp [tE,tEs,none3]
theorem tE2 (k m:Int) (s:ByteArray) (x y:T):tE (.node k s m [x,y])=layT k s m (xdQ x) (tE x) (xdQ y) (tE y):=by simp [tE,tEs]
theorem gap_sign {c:UInt8} (r:List UInt8) (h:((lowI c.toNat || digI c.toNat)=false∧c.toNat≠61)):Gap ([c]++r):=Gap.at r h
theorem sp3 {c:UInt8} (hs:ylQ ⟨#[c]⟩=true) (F:List UInt8→Prop):Chunk [32,c,32] [⟨#[c]⟩] F:=by
 have a:Chunk [32] [] NoEq:=Chunk.blank (.inl rfl) _
 have b:Chunk [c] [⟨#[c]⟩] NoEq:=Chunk.sign hs
 have d:Chunk [32] [] F:=Chunk.blank (.inl rfl) _
 exact (((Chunk.blank (c:=32) (.inl rfl) (fun _=>True)).app b (fun _ _=>trivial)).app d (fun suf _=>.inr ⟨32,suf,rfl,by decide⟩))
theorem par_chunk {k:Int} {s:ByteArray} {t:List ByteArray} (least:Int) (h:Chunk s.data.toList t Gap) (hh:Hd s.data.toList):Chunk (par k s least).data.toList (parT k t least) Gap∧Hd (par k s least).data.toList:=by
 unfold par parT
 split
 ·rw [xgQ,xgQ]
  refine ⟨((Chunk.sign (s:=⟨#[40]⟩) (sg rfl)).app h (fun suf _=>hh.noEq suf)).app ((Chunk.sign (s:=⟨#[41]⟩) (sg rfl)).weak fun _ g=>g.noEq) (fun suf _=>gap_sign suf (by decide)),⟨40,_,rfl,by decide⟩⟩
 ·exact ⟨h,hh⟩
theorem yhQ {k m:Int} {s:ByteArray} {kk:List T} (h:xeQ (.node k s m kk)=true) (hs:(xuQ k).2.1=true):xBQ s=true:=by
 obtain ⟨hh,_,_⟩:=xnQ h
 unfold xfQ at hh
 generalize xuQ k=sh at hh hs
 obtain ⟨ks,nm,sm⟩:=sh
 simp only at hs
 subst hs
 simp at hh
 simpa using hh.1.2
theorem sign_is {k:Int} (h:11≤k∧k≤16):ylQ (yfQ k)=true∧relI (yfQ k)=k:=by
 have hk':k=11∨k=12∨k=13∨k=14∨k=15∨k=16:=by omega
 rcases hk' with rfl | rfl | rfl | rfl | rfl | rfl <;> exact ⟨sg rfl,by decide⟩
theorem zbQ (e:T):Good e→Chunk (exS e).data.toList (tE e) Gap∧Hd (exS e).data.toList:=by
 refine T.induct (P:=fun e=>Good e→Chunk (exS e).data.toList (tE e) Gap∧Hd (exS e).data.toList) ?_ e
 intro k s m kk ih hg
 obtain ⟨_,hsh⟩:=xOQ hg
 cases hsh with
 | num h hk h0 h1 =>
  subst h hk
  rw [exS0,tE0]
  simp only [lay,layT,if_true]
  obtain ⟨d1,_⟩:=dec_num (n:=m.toNat) (by omega)
  exact ⟨Chunk.any (by rw [num_kind d1];decide),hd_num d1⟩
 | var h hk =>
  subst h hk
  have hn:=yhQ hg.1 rfl
  rw [exS0,tE0]
  show Chunk s.data.toList [s] Gap∧Hd s.data.toList
  exact ⟨Chunk.any (by rw [yAQ hn];decide),hd_name hn⟩
 | len h hk =>
  subst h hk
  have hn:=yhQ hg.1 rfl
  rw [exS0,tE0]
  show Chunk (ByteArray.data (⟨#[108,101,110,40]⟩++s++⟨#[41]⟩)).toList ([⟨#[108,101,110]⟩]++[⟨#[40]⟩]++[s]++[⟨#[41]⟩]) Gap∧Hd (ByteArray.data (⟨#[108,101,110,40]⟩++s++⟨#[41]⟩)).toList
  rw [xgQ,xgQ]
  refine ⟨(((Chunk.any (s:=⟨#[108,101,110]⟩) (by rw [yKQ (ky rfl)];decide)).app (Chunk.sign (s:=⟨#[40]⟩) (sg rfl)) (fun suf _=>gap_sign suf (by decide))).app (Chunk.any (by rw [yAQ hn];decide)) (fun suf _=>(hd_name hn).noEq suf)).app ((Chunk.sign (s:=⟨#[41]⟩) (sg rfl)).weak fun _ g=>g.noEq) (fun suf _=>gap_sign suf (by decide)),⟨108,_,rfl,by decide⟩⟩
 | cell h x hk hx =>
  subst h hk
  have hn:=yhQ hg.1 rfl
  obtain ⟨c1,c2⟩:=ih x (by simp) hx.good
  rw [exS1,tE1]
  show Chunk (ByteArray.data (s++⟨#[91]⟩++exS x++⟨#[93]⟩)).toList ([s]++[⟨#[91]⟩]++tE x++[⟨#[93]⟩]) Gap∧Hd (ByteArray.data (s++⟨#[91]⟩++exS x++⟨#[93]⟩)).toList
  rw [xgQ,xgQ,xgQ]
  exact ⟨(((Chunk.any (by rw [yAQ hn];decide)).app (Chunk.sign (s:=⟨#[91]⟩) (sg rfl)) (fun suf _=>gap_sign suf (by decide))).app c1 (fun suf _=>c2.noEq suf)).app ((Chunk.sign (s:=⟨#[93]⟩) (sg rfl)).weak fun _ g=>g.noEq) (fun suf _=>gap_sign suf (by decide)),(((hd_name hn).app _).app _).app _⟩
 | neg h x hk hx =>
  subst h hk
  obtain ⟨c1,c2⟩:=ih x (by simp) hx.good
  obtain ⟨d1,d2⟩:=par_chunk (k:=xdQ x) 3 c1 c2
  rw [exS1,tE1]
  show Chunk (ByteArray.data (⟨#[45]⟩++par (xdQ x) (exS x) 3)).toList ([⟨#[45]⟩]++parT (xdQ x) (tE x) 3) Gap∧Hd (ByteArray.data (⟨#[45]⟩++par (xdQ x) (exS x) 3)).toList
  rw [xgQ]
  exact ⟨(Chunk.sign (s:=⟨#[45]⟩) (sg rfl)).app d1 (fun suf _=>d2.noEq suf),⟨45,_,rfl,by decide⟩⟩
 | pair h x y hk hx hy =>
  subst hk
  obtain ⟨c1,c2⟩:=ih x (by simp) hx.good
  obtain ⟨e1,e2⟩:=ih y (by simp) hy.good
  rw [exS2,tE2]
  have go:∀ (la lb:Int) (c:UInt8),ylQ ⟨#[c]⟩=true→Chunk (ByteArray.data (par (xdQ x) (exS x) la++⟨#[32,c,32]⟩++par (xdQ y) (exS y) lb)).toList (parT (xdQ x) (tE x) la++[⟨#[c]⟩]++parT (xdQ y) (tE y) lb) Gap∧Hd (ByteArray.data (par (xdQ x) (exS x) la++⟨#[32,c,32]⟩++par (xdQ y) (exS y) lb)).toList:=by
   intro la lb c hc
   obtain ⟨d1,d2⟩:=par_chunk (k:=xdQ x) la c1 c2
   obtain ⟨g1,g2⟩:=par_chunk (k:=xdQ y) lb e1 e2
   rw [xgQ,xgQ]
   exact ⟨(d1.app (sp3 hc (fun _=>True)) (fun suf _=>.inr ⟨32,_,rfl,by decide⟩)).app g1 (fun _ _=>trivial),(d2.app _).app _⟩
  rcases h with rfl | rfl | rfl
  ·exact go 1 2 43 (sg rfl)
  ·exact go 1 2 45 (sg rfl)
  ·exact go 2 3 42 (sg rfl)
 | cond h x y hk hx hy =>
  subst hk
  obtain ⟨c1,c2⟩:=ih x (by simp) hx.good
  obtain ⟨e1,e2⟩:=ih y (by simp) hy.good
  obtain ⟨s1,_⟩:=sign_is h
  rw [exS2,tE2]
  have l1:lay k s m (xdQ x) (exS x) (xdQ y) (exS y)=exS x++⟨#[32]⟩++yfQ k++⟨#[32]⟩++exS y:=by
   unfold lay
   rw [if_neg (by omega),if_neg (by omega),if_neg (by omega),if_neg (by omega),if_neg (by omega),if_neg (by omega),if_neg (by omega),if_neg (by omega)]
  have l2:layT k s m (xdQ x) (tE x) (xdQ y) (tE y)=tE x++[yfQ k]++tE y:=by
   unfold layT
   rw [if_neg (by omega),if_neg (by omega),if_neg (by omega),if_neg (by omega),if_neg (by omega),if_neg (by omega),if_neg (by omega),if_neg (by omega)]
  rw [l1,l2,xgQ,xgQ,xgQ,xgQ]
  have b1:Chunk (exS x).data.toList (tE x++[]) Gap:=by rw [List.append_nil];exact c1
  refine ⟨?_,(((c2.app _).app _).app _).app _⟩
  have q1:=c1.app (Chunk.blank (c:=32) (.inl rfl) (fun _=>True)) (fun suf _=>.inr ⟨32,suf,rfl,by decide⟩)
  have q2:=q1.app (Chunk.sign s1) (fun _ _=>trivial)
  have q3:=q2.app (Chunk.blank (c:=32) (.inl rfl) (fun _=>True)) (fun suf _=>.inr ⟨32,suf,rfl,by decide⟩)
  have q4:=q3.app e1 (fun _ _=>trivial)
  simp only [List.append_nil] at q4
  exact q4
def X (ws:List W3) (i:Nat):List ByteArray:=(ws.map W3.s).drop i
theorem X_at {ws:List W3} {i:Nat} {s:ByteArray} {r:List ByteArray} (h:X ws i=s :: r):i<ws.length∧xPQ ws i=s∧X ws (i+1)=r∧∀ t,isW ws i t=decide (s=t):=by
 unfold X at h ⊢
 have hl:i<ws.length:=by
  rcases Nat.lt_or_ge i ws.length with q | q
  ·exact q
  ·rw [List.drop_eq_nil_of_le (by simpa using q)] at h;cases h
 have hd:=List.drop_eq_getElem_cons (l:=ws.map W3.s) (i:=i) (by simpa using hl)
 rw [hd] at h
 injection h with h1 h2
 have ht:xPQ ws i=s:=by
  unfold xPQ
  rw [List.getElem?_eq_getElem hl]
  simpa using h1
 exact ⟨hl,ht,h2,fun t=>by rw [isW_of_text hl,ht]⟩
theorem X_kind {ws:List W3} (hw:WsOk ws) {i:Nat} {s:ByteArray} {r:List ByteArray} (h:X ws i=s :: r):xTQ ws i=xAQ s:=by
 obtain ⟨_,_,_,h4⟩:=X_at h
 exact isW_kind hw (by rw [h4];simp)
theorem zwQ {ws:List W3} {i:Nat} {a r:List ByteArray} (h:X ws i=a++r):X ws (i+a.length)=r:=by
 unfold X at h ⊢
 rw [← List.drop_drop,h,List.drop_left]
theorem X_not {ws:List W3} {i:Nat} {r:List ByteArray} {t:ByteArray} (h:X ws i=r) (hn:r.head?≠some t):isW ws i t=false:=by
 cases r with
 | nil =>
  refine isW_end _ ?_
  unfold X at h
  have:=congrArg List.length h
  simp at this
  omega
 | cons s q =>
  rw [(X_at h).2.2.2]
  simp at hn ⊢
  exact hn
theorem hne {s t:ByteArray} {r:List ByteArray} (h:s≠t):(s :: r).head?≠some t:=by simpa using h
def STAR:ByteArray:=⟨#[42]⟩
def OPEN:ByteArray:=⟨#[91]⟩
structure Rt (ws:List W3) (e:T):Prop where
 S:∀ (i:Nat) (rest:List ByteArray) (f:Nat),X ws i=tE e++rest→rest.head?≠some STAR→rest.head?≠some OPEN→5 * (tE e).length+3≤f→∃ f',f≤f'+1+(tE e).length∧x0Q ws f i=yjQ ws f' e (i+(tE e).length)
 M:2≤yJQ (xdQ e)→∀ (i:Nat) (rest:List ByteArray) (f:Nat),X ws i=tE e++rest→rest.head?≠some OPEN→5 * (tE e).length+2≤f→∃ f',f≤f'+1+(tE e).length∧zgQ ws f i=yBQ ws f' e (i+(tE e).length)
 O:3≤yJQ (xdQ e)→∀ (i:Nat) (rest:List ByteArray) (f:Nat),X ws i=tE e++rest→rest.head?≠some OPEN→5 * (tE e).length+1≤f→mOne ws f i=.ok e (i+(tE e).length)
 pos:1≤(tE e).length
theorem termL_ok {ws:List W3} {f:Nat} {e:T} {j:Nat} (h:isW ws j STAR=false) (hf:1≤f):yBQ ws f e j=.ok e j:=by
 obtain ⟨g,rfl⟩:∃ g,f=g+1:=⟨f - 1,by omega⟩
 simp only [yBQ]
 rw [if_neg (by rw [show isW ws j ⟨#[42]⟩=false from h];decide)]
theorem exprL_ok {ws:List W3} {f:Nat} {e:T} {j:Nat} (h1:isW ws j ⟨#[43]⟩=false) (h2:isW ws j ⟨#[45]⟩=false) (hf:1≤f):yjQ ws f e j=.ok e j:=by
 obtain ⟨g,rfl⟩:∃ g,f=g+1:=⟨f - 1,by omega⟩
 simp only [yjQ]
 rw [if_neg (by rw [h1];decide),if_neg (by rw [h2];decide)]
theorem Rt.ofM {ws:List W3} {e:T} (hp:1≤(tE e).length) (hM:∀ (i:Nat) (rest:List ByteArray) (f:Nat),X ws i=tE e++rest→rest.head?≠some OPEN→5 * (tE e).length+2≤f→∃ f',f≤f'+1+(tE e).length∧zgQ ws f i=yBQ ws f' e (i+(tE e).length))
    (hO:3≤yJQ (xdQ e)→∀ (i:Nat) (rest:List ByteArray) (f:Nat),X ws i=tE e++rest→rest.head?≠some OPEN→5 * (tE e).length+1≤f→mOne ws f i=.ok e (i+(tE e).length)):Rt ws e:=by
 refine ⟨fun i rest f hX h1 h2 hf=>?_,fun _=>hM,hO,hp⟩
 obtain ⟨g,rfl⟩:∃ g,f=g+1:=⟨f - 1,by omega⟩
 obtain ⟨f',hf',e1⟩:=hM i rest g hX h2 (by omega)
 refine ⟨g,by omega,?_⟩
 simp only [x0Q]
 rw [e1,termL_ok (X_not (zwQ hX) h1) (by omega)]
 rfl
theorem Rt.ofO {ws:List W3} {e:T} (hp:1≤(tE e).length) (hO:∀ (i:Nat) (rest:List ByteArray) (f:Nat),X ws i=tE e++rest→rest.head?≠some OPEN→5 * (tE e).length+1≤f→mOne ws f i=.ok e (i+(tE e).length)):Rt ws e:=by
 refine Rt.ofM hp (fun i rest f hX h2 hf=>?_) (fun _=>hO)
 obtain ⟨g,rfl⟩:∃ g,f=g+1:=⟨f - 1,by omega⟩
 refine ⟨g,by omega,?_⟩
 simp only [zgQ]
 rw [hO i rest g hX h2 (by omega)]
 rfl
theorem Rt.whole {ws:List W3} {e:T} (h:Rt ws e) {i:Nat} {rest:List ByteArray} {f:Nat} (hX:X ws i=tE e++rest) (h1:rest.head?≠some STAR) (h2:rest.head?≠some OPEN) (h3:rest.head?≠some ⟨#[43]⟩) (h4:rest.head?≠some ⟨#[45]⟩) (hf:5 * (tE e).length+3≤f) :
    x0Q ws f i=.ok e (i+(tE e).length):=by
 obtain ⟨f',hf',e1⟩:=h.S i rest f hX h1 h2 hf
 have hp:=h.pos
 rw [e1,exprL_ok (X_not (zwQ hX) h3) (X_not (zwQ hX) h4) (by omega)]
theorem Rt.inPar {ws:List W3} {e:T} (h:Rt ws e) {i:Nat} {rest:List ByteArray} {f:Nat} (hX:X ws i=([(⟨#[40]⟩:ByteArray)]++tE e++[(⟨#[41]⟩:ByteArray)])++rest) (hf:5 * ((tE e).length+2)+1≤f):mOne ws f i=.ok e (i+((tE e).length+2)):=by
 obtain ⟨g,rfl⟩:∃ g,f=g+1:=⟨f - 1,by omega⟩
 have hX':X ws i=(⟨#[40]⟩:ByteArray) :: (tE e++(⟨#[41]⟩ :: rest)):=by rw [hX];simp
 obtain ⟨_,_,x1,w1⟩:=X_at hX'
 have hm:=h.whole (f:=g) x1 (hne (by decide)) (hne (by decide)) (hne (by decide)) (hne (by decide)) (by omega)
 obtain ⟨_,_,_,w2⟩:=X_at (zwQ x1)
 simp only [mOne]
 rw [if_neg (by rw [w1];decide),if_pos (by rw [w1];decide),hm]
 simp only [Res.then_,want]
 rw [if_pos (by rw [w2];decide)]
 congr 1;omega
theorem Rt.opO {ws:List W3} {e:T} (h:Rt ws e) {i:Nat} {rest:List ByteArray} {f:Nat} (hX:X ws i=parT (xdQ e) (tE e) 3++rest) (h2:rest.head?≠some OPEN) (hf:5 * (parT (xdQ e) (tE e) 3).length+1≤f):mOne ws f i=.ok e (i+(parT (xdQ e) (tE e) 3).length):=by
 unfold parT at hX hf ⊢
 split
 ·rename_i q
  rw [if_pos q] at hX hf
  have hl:([(⟨#[40]⟩:ByteArray)]++tE e++[(⟨#[41]⟩:ByteArray)]).length=(tE e).length+2:=by simp
  rw [hl] at hf ⊢
  exact h.inPar hX hf
 ·rename_i q
  rw [if_neg q] at hX hf
  exact h.O (by omega) i rest f hX h2 hf
theorem Rt.opM {ws:List W3} {e:T} (h:Rt ws e) {i:Nat} {rest:List ByteArray} {f:Nat} (hX:X ws i=parT (xdQ e) (tE e) 2++rest) (h2:rest.head?≠some OPEN) (hf:5 * (parT (xdQ e) (tE e) 2).length+2≤f) :
    ∃ f',f≤f'+1+(parT (xdQ e) (tE e) 2).length∧zgQ ws f i=yBQ ws f' e (i+(parT (xdQ e) (tE e) 2).length):=by
 unfold parT at hX hf ⊢
 split
 ·rename_i q
  rw [if_pos q] at hX hf
  have hl:([(⟨#[40]⟩:ByteArray)]++tE e++[(⟨#[41]⟩:ByteArray)]).length=(tE e).length+2:=by simp
  rw [hl] at hf ⊢
  obtain ⟨g,rfl⟩:∃ g,f=g+1:=⟨f - 1,by omega⟩
  refine ⟨g,by omega,?_⟩
  simp only [zgQ]
  rw [h.inPar hX (by omega)]
  rfl
 ·rename_i q
  rw [if_neg q] at hX hf
  exact h.M (by omega) i rest f hX h2 hf
theorem par_pos {k:Int} {t:List ByteArray} {l:Int} (h:1≤t.length):1≤(parT k t l).length:=by
 unfold parT
 split
 ·simp
 ·exact h
theorem tight1 (k:Int):1≤yJQ k:=by
 unfold yJQ
 split
 ·decide
 ·split <;> decide
theorem par1 (k:Int) (t:List ByteArray):parT k t 1=t:=by
 unfold parT
 rw [if_neg (by have:=tight1 k;omega)]
theorem name_words' {ws:List W3} (hw:WsOk ws) {i:Nat} {s:ByteArray} {r:List ByteArray} (h:X ws i=s :: r) (hn:xBQ s=true):isW ws i ⟨#[45]⟩=false∧isW ws i ⟨#[40]⟩=false∧isW ws i ⟨#[108,101,110]⟩=false∧xTQ ws i=1:=by
 have hk:xTQ ws i=1:=by rw [X_kind hw h,yAQ hn]
 refine ⟨name_words hw hk ?_,name_words hw hk ?_,name_words hw hk ?_,hk⟩
 ·exact not_name (by decide)
 ·exact not_name (by decide)
 ·rw [yKQ (ky rfl)];decide
theorem sums {ws:List W3} {a b:T} (ha:Rt ws a) (hb:Rt ws b) (k:Int) (c:UInt8) (hc:(k=6∧c=43)∨(k=7∧c=45)) (i:Nat) (rest:List ByteArray) (f:Nat) (hX:X ws i=(parT (xdQ a) (tE a) 1++[(⟨#[c]⟩:ByteArray)]++parT (xdQ b) (tE b) 2)++rest) (h1:rest.head?≠some STAR) (h2:rest.head?≠some OPEN)
    (hf:5 * (parT (xdQ a) (tE a) 1++[(⟨#[c]⟩:ByteArray)]++parT (xdQ b) (tE b) 2).length+3≤f) :
    ∃ f',f≤f'+1+(parT (xdQ a) (tE a) 1++[(⟨#[c]⟩:ByteArray)]++parT (xdQ b) (tE b) 2).length∧x0Q ws f i=yjQ ws f' (.node k nil_ 0 [a,b]) (i+(parT (xdQ a) (tE a) 1++[(⟨#[c]⟩:ByteArray)]++parT (xdQ b) (tE b) 2).length):=by
 rw [par1] at hX hf ⊢
 have hl:(tE a++[(⟨#[c]⟩:ByteArray)]++parT (xdQ b) (tE b) 2).length=(tE a).length+1+(parT (xdQ b) (tE b) 2).length:=by simp;omega
 rw [hl] at hf ⊢
 have hX':X ws i=tE a++((⟨#[c]⟩:ByteArray) :: (parT (xdQ b) (tE b) 2++rest)):=by rw [hX];simp
 have hne:∀ t:UInt8,t≠c→((⟨#[c]⟩:ByteArray) :: (parT (xdQ b) (tE b) 2++rest):List ByteArray).head?≠some ⟨#[t]⟩:=fun t ht=>by
  simp only [List.head?_cons,ne_eq,Option.some.injEq]
  intro q
  injection q with q
  injection q with q
  injection q with q
  exact ht q.symm
 have hpb:=par_pos (k:=xdQ b) (l:=2) hb.pos
 obtain ⟨f1,hf1,e1⟩:=ha.S i _ f hX' (hne 42 (by rcases hc with ⟨_,rfl⟩ | ⟨_,rfl⟩ <;> decide)) (hne 91 (by rcases hc with ⟨_,rfl⟩ | ⟨_,rfl⟩ <;> decide)) (by omega)
 obtain ⟨_,_,x2,w2⟩:=X_at (zwQ hX')
 obtain ⟨g,rfl⟩:∃ g,f1=g+1:=⟨f1 - 1,by omega⟩
 obtain ⟨f2,hf2,e2⟩:=hb.opM (f:=g) x2 h2 (by omega)
 refine ⟨g,by omega,?_⟩
 rw [e1]
 simp only [yjQ]
 have hend:zgQ ws g (i+(tE a).length+1)=.ok b (i+(tE a).length+1+(parT (xdQ b) (tE b) 2).length):=by
  rw [e2,termL_ok (X_not (zwQ x2) h1) (by omega)]
 rcases hc with ⟨rfl,rfl⟩ | ⟨rfl,rfl⟩
 ·rw [if_pos (by rw [w2];decide),hend]
  simp only [Res.then_]
  congr 1;omega
 ·rw [if_neg (by rw [w2];decide),if_pos (by rw [w2];decide),hend]
  simp only [Res.then_]
  congr 1;omega
theorem no_name {k m:Int} {s:ByteArray} {kk:List T} (h:xeQ (.node k s m kk)=true) (hs:(xuQ k).2.1=false):s=nil_:=by
 obtain ⟨hh,_,_⟩:=xnQ h
 unfold xfQ at hh
 generalize xuQ k=sh at hh hs
 obtain ⟨ks,nm,sm⟩:=sh
 simp at hh
 simp only at hs
 subst hs
 have:=hh.1.1.2
 simp at this
 exact this
theorem no_num {k m:Int} {s:ByteArray} {kk:List T} (h:xeQ (.node k s m kk)=true) (q1:k≠1) (q2:k≠32):m=0:=by
 obtain ⟨_,hn,_⟩:=xnQ h
 unfold xWQ at hn
 rw [if_neg q1,if_neg q2] at hn
 simpa using hn
theorem expr_rt {ws:List W3} (hw:WsOk ws) (e:T):Good1 e→Rt ws e:=by
 refine T.induct (P:=fun e=>Good1 e→Rt ws e) ?_ e
 intro k s m kk ih hg
 obtain ⟨_,hsh⟩:=xOQ hg.good
 have hg1:=hg.2.1
 have hg2:=hg.2.2
 have hz:(xuQ k).2.1=false→s=nil_:=no_name hg.1
 have hmz:k≠1→k≠32→m=0:=no_num hg.1
 cases hsh with
 | num h hk h0 h1 =>
  subst h hk
  obtain ⟨d1,d2⟩:=dec_num (n:=m.toNat) (by omega)
  have hs:=hz rfl
  subst hs
  refine Rt.ofO (by rw [tE0];exact Nat.le_refl _) (fun i rest f hX _ hf=>?_)
  rw [tE0] at hX hf ⊢
  have hX':X ws i=dec m.toNat :: rest:=hX
  have hk:=X_kind hw hX'
  rw [num_kind d1] at hk
  obtain ⟨_,ht,_,_⟩:=X_at hX'
  obtain ⟨g,rfl⟩:∃ g,f=g+1:=⟨f - 1,by omega⟩
  simp only [mOne]
  rw [if_neg (by rw [zsQ hw hk (by decide)];decide),if_neg (by rw [zsQ hw hk (by decide)];decide),if_neg (by rw [zsQ hw hk (by decide)];decide),if_pos hk,ht,d2]
  rw [show ((m.toNat:Nat):Int)=m by omega]
  rfl
 | var h hk =>
  subst h hk
  have hn:=yhQ hg.1 rfl
  have hm:=hmz (by decide) (by decide)
  subst hm
  refine Rt.ofO (by rw [tE0];exact Nat.le_refl _) (fun i rest f hX h2 hf=>?_)
  rw [tE0] at hX hf ⊢
  have hX':X ws i=s :: rest:=hX
  obtain ⟨_,ht,x1,_⟩:=X_at hX'
  obtain ⟨a1,a2,a3,a4⟩:=name_words' hw hX' hn
  obtain ⟨g,rfl⟩:∃ g,f=g+1:=⟨f - 1,by omega⟩
  simp only [mOne,yQQ]
  rw [if_neg (by rw [a1];decide),if_neg (by rw [a2];decide),if_neg (by rw [a3];decide),if_neg (by rw [a4];decide),if_pos a4,if_neg (by rw [show isW ws (i+1) ⟨#[91]⟩=false from X_not x1 h2];decide),ht]
  rfl
 | len h hk =>
  subst h hk
  have hn:=yhQ hg.1 rfl
  have hm:=hmz (by decide) (by decide)
  subst hm
  refine Rt.ofO (by rw [tE0];show 1≤4;decide) (fun i rest f hX h2 hf=>?_)
  rw [tE0] at hX hf ⊢
  have hX':X ws i=(⟨#[108,101,110]⟩:ByteArray) :: (⟨#[40]⟩:ByteArray) :: s :: (⟨#[41]⟩:ByteArray) :: rest:=hX
  obtain ⟨_,_,x1,w1⟩:=X_at hX'
  obtain ⟨_,_,x2,w2⟩:=X_at x1
  obtain ⟨_,t3,x3,_⟩:=X_at x2
  obtain ⟨_,_,_,w4⟩:=X_at x3
  have hk:=X_kind hw x2
  rw [yAQ hn] at hk
  obtain ⟨g,rfl⟩:∃ g,f=g+1:=⟨f - 1,by omega⟩
  simp only [mOne,want,yQQ]
  rw [if_neg (by rw [w1];decide),if_neg (by rw [w1];decide),if_pos (by rw [w1];decide),if_pos (by rw [w2];decide),if_pos (show xTQ ws (i+2)=1 from hk),if_pos (show isW ws (i+3) ⟨#[41]⟩=true by rw [show isW ws (i+3) ⟨#[41]⟩=isW ws (i+1+1+1) ⟨#[41]⟩ from rfl,w4];decide),show xPQ ws (i+2)=s from t3]
  rfl
 | cell h x hk hx =>
  subst h hk
  have hn:=yhQ hg.1 rfl
  have hm:=hmz (by decide) (by decide)
  subst hm
  have rx:=ih x (by simp) hx
  have hl:(tE (.node 3 s 0 [x])).length=(tE x).length+3:=by rw [tE1];show ([s]++[(⟨#[91]⟩:ByteArray)]++tE x++[(⟨#[93]⟩:ByteArray)]).length=_;simp
  refine Rt.ofO (by rw [hl];omega) (fun i rest f hX h2 hf=>?_)
  rw [hl] at hf ⊢
  rw [tE1] at hX
  have hX':X ws i=s :: (⟨#[91]⟩:ByteArray) :: (tE x++(⟨#[93]⟩ :: rest)):=by rw [hX];show ([s]++[(⟨#[91]⟩:ByteArray)]++tE x++[(⟨#[93]⟩:ByteArray)])++rest=_;simp
  obtain ⟨_,ht,x1,_⟩:=X_at hX'
  obtain ⟨_,_,x2,w2⟩:=X_at x1
  obtain ⟨a1,a2,a3,a4⟩:=name_words' hw hX' hn
  obtain ⟨g,rfl⟩:∃ g,f=g+1:=⟨f - 1,by omega⟩
  have hm:=rx.whole (f:=g) x2 (hne (by decide)) (hne (by decide)) (hne (by decide)) (hne (by decide)) (by omega)
  obtain ⟨_,_,_,w3⟩:=X_at (zwQ x2)
  simp only [mOne,want,yQQ]
  rw [if_neg (by rw [a1];decide),if_neg (by rw [a2];decide),if_neg (by rw [a3];decide),if_neg (by rw [a4];decide),if_pos a4,if_pos (by rw [w2];decide),show x0Q ws g (i+2)=_ from hm]
  simp only [Res.then_]
  rw [if_pos (show isW ws (i+1+1+(tE x).length) ⟨#[93]⟩=true by rw [w3];decide),ht]
  congr 1;omega
 | neg h x hk hx =>
  subst h hk
  have hs:=hz rfl
  subst hs
  have hm:=hmz (by decide) (by decide)
  subst hm
  have rx:=ih x (by simp) hx
  have hl:(tE (.node 5 nil_ 0 [x])).length=(parT (xdQ x) (tE x) 3).length+1:=by rw [tE1];show ([(⟨#[45]⟩:ByteArray)]++parT (xdQ x) (tE x) 3).length=_;simp
  refine Rt.ofO (by rw [hl];omega) (fun i rest f hX h2 hf=>?_)
  rw [hl] at hf ⊢
  rw [tE1] at hX
  have hX':X ws i=(⟨#[45]⟩:ByteArray) :: (parT (xdQ x) (tE x) 3++rest):=by rw [hX];rfl
  obtain ⟨_,_,x1,w1⟩:=X_at hX'
  obtain ⟨g,rfl⟩:∃ g,f=g+1:=⟨f - 1,by omega⟩
  simp only [mOne]
  rw [if_pos (by rw [w1];decide),rx.opO x1 h2 (by omega)]
  simp only [Res.then_]
  congr 1;omega
 | pair h x y hk hx hy =>
  subst hk
  have rx:=ih x (by simp) hx
  have ry:=ih y (by simp) hy
  have hs:s=nil_:=hz (by rcases h with rfl | rfl | rfl <;> rfl)
  subst hs
  have hm:=hmz (by omega) (by omega)
  subst hm
  rcases h with rfl | rfl | rfl
  ·refine ⟨fun i rest f hX h1 h2 hf=>?_,fun q=>absurd q (by show ¬ 2≤yJQ 6;decide),fun q=>absurd q (by show ¬ 3≤yJQ 6;decide),?_⟩
   ·rw [tE2] at hX hf ⊢
    exact sums rx ry 6 43 (.inl ⟨rfl,rfl⟩) i rest f hX h1 h2 hf
   ·rw [tE2];show 1≤(parT (xdQ x) (tE x) 1++[(⟨#[43]⟩:ByteArray)]++parT (xdQ y) (tE y) 2).length;simp;omega
  ·refine ⟨fun i rest f hX h1 h2 hf=>?_,fun q=>absurd q (by show ¬ 2≤yJQ 7;decide),fun q=>absurd q (by show ¬ 3≤yJQ 7;decide),?_⟩
   ·rw [tE2] at hX hf ⊢
    exact sums rx ry 7 45 (.inr ⟨rfl,rfl⟩) i rest f hX h1 h2 hf
   ·rw [tE2];show 1≤(parT (xdQ x) (tE x) 1++[(⟨#[45]⟩:ByteArray)]++parT (xdQ y) (tE y) 2).length;simp;omega
  ·have hl:(tE (.node 8 nil_ 0 [x,y])).length=(parT (xdQ x) (tE x) 2).length+1+(parT (xdQ y) (tE y) 3).length:=by rw [tE2];show (parT (xdQ x) (tE x) 2++[(⟨#[42]⟩:ByteArray)]++parT (xdQ y) (tE y) 3).length=_;simp;omega
   refine Rt.ofM (by rw [hl];omega) (fun i rest f hX h2 hf=>?_) (fun q=>absurd q (by show ¬ 3≤yJQ 8;decide))
   rw [hl] at hf ⊢
   rw [tE2] at hX
   have hX':X ws i=parT (xdQ x) (tE x) 2++(⟨#[42]⟩ :: (parT (xdQ y) (tE y) 3++rest)):=by rw [hX];show (parT (xdQ x) (tE x) 2++[(⟨#[42]⟩:ByteArray)]++parT (xdQ y) (tE y) 3)++rest=_;simp
   have hpx:=par_pos (k:=xdQ x) (l:=2) rx.pos
   have hpy:=par_pos (k:=xdQ y) (l:=3) ry.pos
   obtain ⟨f1,hf1,e1⟩:=rx.opM (f:=f) hX' (hne (by decide)) (by omega)
   obtain ⟨_,_,x2,w2⟩:=X_at (zwQ hX')
   obtain ⟨g,rfl⟩:∃ g,f1=g+1:=⟨f1 - 1,by omega⟩
   refine ⟨g,by omega,?_⟩
   rw [e1]
   simp only [yBQ]
   rw [if_pos (by rw [w2];decide),ry.opO x2 h2 (by omega)]
   simp only [Res.then_]
   congr 1;omega
 | cond h x y hk hx hy =>
  have:k≤8:=hg2
  omega
theorem cond_rt {ws:List W3} (hw:WsOk ws) {k m:Int} {s:ByteArray} {kk:List T} (hg:Good (.node k s m kk)) (hk:11≤k) {i:Nat} {rest:List ByteArray} {f:Nat} (hX:X ws i=tE (.node k s m kk)++rest) (h1:rest.head?≠some STAR) (h2:rest.head?≠some OPEN) (h3:rest.head?≠some ⟨#[43]⟩) (h4:rest.head?≠some ⟨#[45]⟩)
    (hf:5 * (tE (.node k s m kk)).length+3≤f):zPQ ws f i=.ok (.node k s m kk) (i+(tE (.node k s m kk)).length):=by
 obtain ⟨_,hsh⟩:=xOQ hg
 cases hsh with
 | num h=>omega
 | var h=>omega
 | len h=>omega
 | cell h=>omega
 | neg h=>omega
 | pair h=>omega
 | cond h x y hkk hx hy =>
   subst hkk
   obtain ⟨s1,s2⟩:=sign_is h
   have hs:s=nil_∧m=0:=by
    refine ⟨no_name hg.1 ?_,no_num hg.1 (by omega) (by omega)⟩
    have hk':k=11∨k=12∨k=13∨k=14∨k=15∨k=16:=by omega
    rcases hk' with rfl | rfl | rfl | rfl | rfl | rfl <;> rfl
   obtain ⟨rfl,rfl⟩:=hs
   have l2:tE (.node k nil_ 0 [x,y])=tE x++[yfQ k]++tE y:=by
    rw [tE2]
    unfold layT
    rw [if_neg (by omega),if_neg (by omega),if_neg (by omega),if_neg (by omega),if_neg (by omega),if_neg (by omega),if_neg (by omega),if_neg (by omega)]
   have hl:(tE (.node k nil_ 0 [x,y])).length=(tE x).length+1+(tE y).length:=by rw [l2];simp;omega
   rw [hl] at hf ⊢
   have hX':X ws i=tE x++(yfQ k :: (tE y++rest)):=by rw [hX,l2];simp
   have hsg:∀ t:ByteArray,relI t=0→(yfQ k :: (tE y++rest)).head?≠some t:=fun t ht q=>by
    simp only [List.head?_cons,Option.some.injEq] at q
    rw [q,ht] at s2
    omega
   have rx:=expr_rt hw x hx
   have ry:=expr_rt hw y hy
   have e1:=rx.whole (f:=f) hX' (hsg _ (by decide)) (hsg _ (by decide)) (hsg _ (by decide)) (hsg _ (by decide)) (by omega)
   obtain ⟨_,ht,x2,_⟩:=X_at (zwQ hX')
   have e2:=ry.whole (f:=f) x2 h1 h2 h3 h4 (by omega)
   unfold zPQ
   rw [e1]
   simp only [Res.then_]
   rw [ht,s2,if_neg (by omega),e2]
   show Res.ok _ _=_
   congr 1;omega
def xtQ:T→Bool
 | .node _ _ _ kk=>kk.isEmpty
def catS:List ByteArray→ByteArray
 | []=>⟨#[]⟩
 | a :: r=>a++catS r
def e0 (l:List (Int × ByteArray)) (i:Nat):ByteArray:=(l[i]?.getD none2).2
def m0 (l:List ByteArray) (i:Nat):ByteArray:=l[i]?.getD ⟨#[]⟩
def numS (m:Int):ByteArray:=if 0≤m then dec m.toNat else ⟨#[63]⟩
def layL (k:Int) (s:ByteArray) (m:Int) (pad:ByteArray) (es:List (Int × ByteArray)) (more same:List ByteArray) (z:Bool):ByteArray :=
 if k=31 then pad++⟨#[118,97,114,32]⟩++s++⟨#[59,10]⟩ else
 if k=32 then pad++⟨#[97,114,114,97,121,32]⟩++s++⟨#[91]⟩++numS m++⟨#[93,59,10]⟩ else
 if k=21 then pad++s++⟨#[32,61,32]⟩++e0 es 0++⟨#[59,10]⟩ else
 if k=22 then pad++s++⟨#[91]⟩++e0 es 0++⟨#[93,32,61,32]⟩++e0 es 1++⟨#[59,10]⟩ else
 if k=23 then pad++⟨#[114,101,97,100,32]⟩++s++⟨#[59,10]⟩ else
 if k=27 then pad++⟨#[99,104,101,99,107,32]⟩++e0 es 0++⟨#[59,10]⟩ else
 if k=28 then pad++⟨#[115,107,105,112,59,10]⟩ else
 if k=29 then pad++⟨#[115,116,111,112,59,10]⟩ else
 if k=25 then pad++⟨#[119,104,105,108,101,32]⟩++e0 es 0++⟨#[32,123,10]⟩++m0 more 1++pad++⟨#[125,10]⟩ else
 if k=26 then pad++⟨#[102,111,114,32]⟩++s++⟨#[32,102,114,111,109,32]⟩++e0 es 0++⟨#[32,116,111,32]⟩++e0 es 1++⟨#[32,123,10]⟩++m0 more 2++pad++⟨#[125,10]⟩ else
 if k=24 then (if z then pad++⟨#[105,102,32]⟩++e0 es 0++⟨#[32,123,10]⟩++m0 more 1++pad++⟨#[125,10]⟩ else
  pad++⟨#[105,102,32]⟩++e0 es 0++⟨#[32,123,10]⟩++m0 more 1++pad++⟨#[125,32,101,108,115,101,32,123,10]⟩++m0 more 2++pad++⟨#[125,10]⟩) else
 catS same
mutual
def lnS:T→ByteArray→ByteArray
 | .node k s m kk,pad=>layL k s m pad (exSs kk) (lnSs kk (pad++⟨#[32,32]⟩)) (lnSs kk pad) ((kk[2]?.map xtQ).getD true)
def lnSs:List T→ByteArray→List ByteArray
 | [],_=>[]
 | t :: r,pad=>lnS t pad :: lnSs r pad
end
def layK (k:Int) (s:ByteArray) (m:Int) (es:List (Int × List ByteArray)) (ls:List (List ByteArray)) (z:Bool):List ByteArray :=
 let e:=fun i=>(es[i]?.getD none3).2
 let l:=fun i=>ls[i]?.getD []
 if k=31 then [⟨#[118,97,114]⟩,s,⟨#[59]⟩] else
 if k=32 then [⟨#[97,114,114,97,121]⟩,s,⟨#[91]⟩,numS m,⟨#[93]⟩,⟨#[59]⟩] else
 if k=21 then [s,⟨#[61]⟩]++e 0++[⟨#[59]⟩] else
 if k=22 then [s,⟨#[91]⟩]++e 0++[⟨#[93]⟩,⟨#[61]⟩]++e 1++[⟨#[59]⟩] else
 if k=23 then [⟨#[114,101,97,100]⟩,s,⟨#[59]⟩] else
 if k=27 then [⟨#[99,104,101,99,107]⟩]++e 0++[⟨#[59]⟩] else
 if k=28 then [⟨#[115,107,105,112]⟩,⟨#[59]⟩] else
 if k=29 then [⟨#[115,116,111,112]⟩,⟨#[59]⟩] else
 if k=25 then [⟨#[119,104,105,108,101]⟩]++e 0++[⟨#[123]⟩]++l 1++[⟨#[125]⟩] else
 if k=26 then [⟨#[102,111,114]⟩,s,⟨#[102,114,111,109]⟩]++e 0++[⟨#[116,111]⟩]++e 1++[⟨#[123]⟩]++l 2++[⟨#[125]⟩] else
 if k=24 then (if z then [⟨#[105,102]⟩]++e 0++[⟨#[123]⟩]++l 1++[⟨#[125]⟩] else [⟨#[105,102]⟩]++e 0++[⟨#[123]⟩]++l 1++[⟨#[125]⟩,⟨#[101,108,115,101]⟩,⟨#[123]⟩]++l 2++[⟨#[125]⟩]) else
 ls.flatten
mutual
def tL:T→List ByteArray
 | .node k s m kk=>layK k s m (tEs kk) (tLs kk) ((kk[2]?.map xtQ).getD true)
def tLs:List T→List (List ByteArray)
 | []=>[]
 | t :: r=>tL t :: tLs r
end
def GoodB (t:T):Prop:=xeQ t=true∧xdQ t=30
def GoodC (t:T):Prop:=xeQ t=true∧11≤xdQ t∧xdQ t≤16
def GoodS (t:T):Prop:=xeQ t=true∧21≤xdQ t∧xdQ t≤29
def GoodD (t:T):Prop:=xeQ t=true∧(xdQ t=31∨xdQ t=32)
theorem GoodC.good {t:T} (h:GoodC t):Good t:=⟨h.1,.inr h.2⟩
inductive ShpS (k m:Int) (s:ByteArray) (kk:List T):Prop
 | set (h:k=21) (x:T) (hk:kk=[x]) (hx:Good1 x) (hn:xBQ s=true) (hm:m=0)
 | put (h:k=22) (x y:T) (hk:kk=[x,y]) (hx:Good1 x) (hy:Good1 y) (hn:xBQ s=true) (hm:m=0)
 | read (h:k=23) (hk:kk=[]) (hn:xBQ s=true) (hm:m=0)
 | ifs (h:k=24) (c b d:T) (hk:kk=[c,b,d]) (hc:GoodC c) (hb:GoodB b) (hd:GoodB d) (hs:s=nil_) (hm:m=0)
 | whil (h:k=25) (c b:T) (hk:kk=[c,b]) (hc:GoodC c) (hb:GoodB b) (hs:s=nil_) (hm:m=0)
 | fors (h:k=26) (x y b:T) (hk:kk=[x,y,b]) (hx:Good1 x) (hy:Good1 y) (hb:GoodB b) (hn:xBQ s=true) (hm:m=0)
 | chec (h:k=27) (c:T) (hk:kk=[c]) (hc:GoodC c) (hs:s=nil_) (hm:m=0)
 | skip (h:k=28) (hk:kk=[]) (hs:s=nil_) (hm:m=0)
 | stop (h:k=29) (hk:kk=[]) (hs:s=nil_) (hm:m=0)
theorem len1 {kk:List T} (h:kk.length=1):∃ x,kk=[x]:=List.length_eq_one_iff.1 h
theorem len2 {kk:List T} (h:kk.length=2):∃ x y,kk=[x,y]:=by
 match kk,h with
 | [x,y],_=>exact ⟨x,y,rfl⟩
theorem len3 {kk:List T} (h:kk.length=3):∃ x y z,kk=[x,y,z]:=by
 match kk,h with
 | [x,y,z],_=>exact ⟨x,y,z,rfl⟩
theorem arity {k m:Int} {s:ByteArray} {kk:List T} (h:xeQ (.node k s m kk)=true) (n:Int) (b:Bool) (e:xuQ k=(n,b,true)) (h0:0≤n):(kk.length:Int)=n:=by
 obtain ⟨hh,_,_⟩:=xnQ h
 unfold xfQ at hh
 rw [e] at hh
 simp at hh
 omega
theorem kid_of {k m:Int} {s:ByteArray} {kk:List T} (h:xeQ (.node k s m kk)=true) {j:Nat} {t:T} (ht:kk[j]?=some t):kidI k kk.length j (xdQ t)=true∧xeQ t=true:=by
 obtain ⟨_,_,hk⟩:=xnQ h
 have:=hk j t ht
 simpa using this
theorem zBQ {k m:Int} {s:ByteArray} {kk:List T} (h:GoodS (.node k s m kk)):ShpS k m s kk:=by
 obtain ⟨h1,h2,h3⟩:=h
 have g2:21≤k:=h2
 have g3:k≤29:=h3
 have hm:m=0:=no_num h1 (by omega) (by omega)
 have kid:∀ {j:Nat} {t:T},kk[j]?=some t→kidI k kk.length j (xdQ t)=true∧xeQ t=true:=fun ht=>kid_of h1 ht
 have hk':k=21∨k=22∨k=23∨k=24∨k=25∨k=26∨k=27∨k=28∨k=29:=by omega
 rcases hk' with rfl | rfl | rfl | rfl | rfl | rfl | rfl | rfl | rfl
 ·have hl:=arity h1 1 true rfl (by decide)
  obtain ⟨x,rfl⟩:=len1 (kk:=kk) (by omega)
  obtain ⟨a1,a2⟩:=kid (j:=0) (t:=x) rfl
  exact .set rfl x rfl ⟨a2,x8Q a1⟩ (yhQ h1 rfl) hm
 ·have hl:=arity h1 2 true rfl (by decide)
  obtain ⟨x,y,rfl⟩:=len2 (kk:=kk) (by omega)
  obtain ⟨a1,a2⟩:=kid (j:=0) (t:=x) rfl
  obtain ⟨b1,b2⟩:=kid (j:=1) (t:=y) rfl
  exact .put rfl x y rfl ⟨a2,x8Q a1⟩ ⟨b2,x8Q b1⟩ (yhQ h1 rfl) hm
 ·have hl:=arity h1 0 true rfl (by decide)
  exact .read rfl (List.length_eq_zero_iff.1 (by omega)) (yhQ h1 rfl) hm
 ·have hl:=arity h1 3 false rfl (by decide)
  obtain ⟨c,b,d,rfl⟩:=len3 (kk:=kk) (by omega)
  obtain ⟨a1,a2⟩:=kid (j:=0) (t:=c) rfl
  obtain ⟨b1,b2⟩:=kid (j:=1) (t:=b) rfl
  obtain ⟨d1,d2⟩:=kid (j:=2) (t:=d) rfl
  exact .ifs rfl c b d rfl ⟨a2,x8Q a1⟩ ⟨b2,by simpa [kidI] using b1⟩ ⟨d2,by simpa [kidI] using d1⟩ (no_name h1 rfl) hm
 ·have hl:=arity h1 2 false rfl (by decide)
  obtain ⟨c,b,rfl⟩:=len2 (kk:=kk) (by omega)
  obtain ⟨a1,a2⟩:=kid (j:=0) (t:=c) rfl
  obtain ⟨b1,b2⟩:=kid (j:=1) (t:=b) rfl
  exact .whil rfl c b rfl ⟨a2,x8Q a1⟩ ⟨b2,by simpa [kidI] using b1⟩ (no_name h1 rfl) hm
 ·have hl:=arity h1 3 true rfl (by decide)
  obtain ⟨x,y,b,rfl⟩:=len3 (kk:=kk) (by omega)
  obtain ⟨a1,a2⟩:=kid (j:=0) (t:=x) rfl
  obtain ⟨b1,b2⟩:=kid (j:=1) (t:=y) rfl
  obtain ⟨d1,d2⟩:=kid (j:=2) (t:=b) rfl
  exact .fors rfl x y b rfl ⟨a2,x8Q a1⟩ ⟨b2,x8Q b1⟩ ⟨d2,by simpa [kidI] using d1⟩ (yhQ h1 rfl) hm
 ·have hl:=arity h1 1 false rfl (by decide)
  obtain ⟨c,rfl⟩:=len1 (kk:=kk) (by omega)
  obtain ⟨a1,a2⟩:=kid (j:=0) (t:=c) rfl
  exact .chec rfl c rfl ⟨a2,x8Q a1⟩ (no_name h1 rfl) hm
 ·have hl:=arity h1 0 false rfl (by decide)
  exact .skip rfl (List.length_eq_zero_iff.1 (by omega)) (no_name h1 rfl) hm
 ·have hl:=arity h1 0 false rfl (by decide)
  exact .stop rfl (List.length_eq_zero_iff.1 (by omega)) (no_name h1 rfl) hm
theorem yMQ {m:Int} {s:ByteArray} {kk:List T} (h:xeQ (.node 30 s m kk)=true):s=nil_∧m=0∧∀ t∈kk,GoodS t:=by
 refine ⟨no_name h rfl,no_num h (by decide) (by decide),fun t ht=>?_⟩
 obtain ⟨j,hj⟩:=List.getElem?_of_mem ht
 obtain ⟨a1,a2⟩:=kid_of h hj
 exact ⟨a2,x8Q (by simpa [kidI] using a1)⟩
theorem prog_shape {m:Int} {s:ByteArray} {kk:List T} (h:xeQ (.node 40 s m kk)=true):s=nil_∧m=0∧∃ ds ss,kk=ds++[.node 30 nil_ 0 ss]∧(∀ t∈ds,GoodD t)∧∀ t∈ss,GoodS t:=by
 refine ⟨no_name h rfl,no_num h (by decide) (by decide),?_⟩
 have hne:kk≠[]:=by
  obtain ⟨hh,_,_⟩:=xnQ h
  unfold xfQ at hh
  simp at hh
  intro e
  subst e
  simp at hh
 obtain ⟨ds,b,rfl⟩:∃ ds b,kk=ds++[b]:=⟨kk.dropLast,kk.getLast hne,(List.dropLast_concat_getLast hne).symm⟩
 obtain ⟨a1,a2⟩:=kid_of h (j:=ds.length) (t:=b) (by simp)
 have hb:xdQ b=30:=by simpa [kidI] using a1
 obtain ⟨bk,bs,bm,bkk⟩:=b
 have hb':bk=30:=hb
 subst hb'
 obtain ⟨r1,r2,r3⟩:=yMQ a2
 subst r1 r2
 refine ⟨ds,bkk,rfl,fun t ht=>?_,r3⟩
 obtain ⟨j,hj⟩:=List.getElem?_of_mem ht
 have hjl:=(List.getElem?_eq_some_iff.1 hj).1
 obtain ⟨c1,c2⟩:=kid_of h (j:=j) (t:=t) (by rw [List.getElem?_append_left hjl];exact hj)
 refine ⟨c2,?_⟩
 have hne2:j≠ds.length:=by omega
 simpa [kidI,hne2] using c1
inductive ShpD (k m:Int) (s:ByteArray) (kk:List T):Prop
 | var (h:k=31) (hk:kk=[]) (hn:xBQ s=true) (hm:m=0)
 | arr (h:k=32) (hk:kk=[]) (hn:xBQ s=true) (h0:-1≤m) (h1:m≤1000000)
theorem zGQ {k m:Int} {s:ByteArray} {kk:List T} (h:GoodD (.node k s m kk)):ShpD k m s kk:=by
 obtain ⟨h1,h2⟩:=h
 have h2':k=31∨k=32:=h2
 rcases h2' with rfl | rfl
 ·have hl:=arity h1 0 true rfl (by decide)
  exact .var rfl (List.length_eq_zero_iff.1 (by omega)) (yhQ h1 rfl) (no_num h1 (by decide) (by decide))
 ·have hl:=arity h1 0 true rfl (by decide)
  obtain ⟨_,hn,_⟩:=xnQ h1
  have:=x8Q (show betw m (-1) 1000000=true from hn)
  exact .arr rfl (List.length_eq_zero_iff.1 (by omega)) (yhQ h1 rfl) this.1 this.2
def Blk (pad:ByteArray):Prop:=∀ c∈pad.data.toList,c.toNat=32∨c.toNat=10
theorem blanks_chunk (l:List UInt8) (h:∀ c∈l,c.toNat=32∨c.toNat=10) (F:List UInt8→Prop):Chunk l [] F:=by
 induction l with
 | nil=>exact Chunk.nil F
 | cons c r ih=>exact (Chunk.blank (h c (by simp)) (fun _=>True)).app (ih fun d hd=>h d (by simp [hd])) (fun _ _=>trivial)
theorem zMQ {pad:ByteArray} (h:Blk pad) (F:List UInt8→Prop):Chunk pad.data.toList [] F:=blanks_chunk _ h F
theorem Blk.more {pad:ByteArray} (h:Blk pad):Blk (pad++⟨#[32,32]⟩):=fun c hc=>by
 rw [xgQ,List.mem_append] at hc
 rcases hc with hc | hc
 ·exact h c hc
 ·simp at hc;subst hc;exact .inl rfl
theorem gap32 (r:List UInt8):Gap (32 :: r):=Gap.at r (by decide)
theorem gap59 (r:List UInt8):Gap (59 :: r):=Gap.at r (by decide)
theorem gap91 (r:List UInt8):Gap (91 :: r):=Gap.at r (by decide)
theorem gap93 (r:List UInt8):Gap (93 :: r):=Gap.at r (by decide)
theorem kw {s:ByteArray} (hk:xAQ s≠0) (F:List UInt8→Prop):Chunk (s.data.toList++[32]) [s] F:=(Chunk.any hk).app (Chunk.blank (.inl rfl) F) (fun suf _=>gap32 suf)
theorem yXQ {s:ByteArray} (h:keys.contains s.data.toList=true):xAQ s≠0:=by rw [yKQ (ky h)];decide
theorem c_semi (F:List UInt8→Prop):Chunk [59,10] [⟨#[59]⟩] F:=(Chunk.sign (s:=⟨#[59]⟩) (sg rfl)).app (Chunk.blank (c:=10) (.inr rfl) F) (fun suf _=>.inr ⟨10,suf,rfl,by decide⟩)
theorem c_close (F:List UInt8→Prop):Chunk [125,10] [⟨#[125]⟩] F:=(Chunk.sign (s:=⟨#[125]⟩) (sg rfl)).app (Chunk.blank (c:=10) (.inr rfl) F) (fun suf _=>.inr ⟨10,suf,rfl,by decide⟩)
theorem c_open (F:List UInt8→Prop):Chunk [32,123,10] [⟨#[123]⟩] F :=
 (Chunk.blank (c:=32) (.inl rfl) (fun _=>True)).app ((Chunk.sign (s:=⟨#[123]⟩) (sg rfl)).app (Chunk.blank (c:=10) (.inr rfl) F) (fun suf _=>.inr ⟨10,suf,rfl,by decide⟩)) (fun _ _=>trivial)
theorem c_mid {s:ByteArray} (hk:xAQ s≠0) (F:List UInt8→Prop):Chunk (32 :: (s.data.toList++[32])) [s] F:=(Chunk.blank (c:=32) (.inl rfl) (fun _=>True)).app (kw hk F) (fun _ _=>trivial)
theorem c_sub (F:List UInt8→Prop):Chunk [93,59,10] [⟨#[93]⟩,⟨#[59]⟩] F:=(Chunk.sign (s:=⟨#[93]⟩) (sg rfl)).app (c_semi F) (fun suf _=>.inr ⟨59,_,rfl,by decide⟩)
theorem c_put (F:List UInt8→Prop):Chunk [93,32,61,32] [⟨#[93]⟩,⟨#[61]⟩] F:=(Chunk.sign (s:=⟨#[93]⟩) (sg rfl)).app (sp3 (c:=61) (sg rfl) F) (fun suf _=>.inr ⟨32,_,rfl,by decide⟩)
theorem c_else (F:List UInt8→Prop):Chunk [125,32,101,108,115,101,32,123,10] [⟨#[125]⟩,⟨#[101,108,115,101]⟩,⟨#[123]⟩] F:=by
 have a:=(Chunk.sign (s:=⟨#[125]⟩) (sg rfl)).app (c_mid (s:=⟨#[101,108,115,101]⟩) (yXQ rfl) (fun _=>True)) (fun suf _=>.inr ⟨32,_,rfl,by decide⟩)
 exact a.app ((Chunk.sign (s:=⟨#[123]⟩) (sg rfl)).app (Chunk.blank (c:=10) (.inr rfl) F) (fun suf _=>.inr ⟨10,suf,rfl,by decide⟩)) (fun _ _=>trivial)
theorem num_word {m:Int} (h0:-1≤m) (h1:m≤1000000):xAQ (numS m)≠0∧Hd (numS m).data.toList:=by
 unfold numS
 split
 ·obtain ⟨d1,_⟩:=dec_num (n:=m.toNat) (by omega)
  exact ⟨by rw [num_kind d1];decide,hd_num d1⟩
 ·refine ⟨?_,⟨63,[],rfl,by decide⟩⟩
  have h1:ylQ ⟨#[63]⟩=true:=sg rfl
  unfold xAQ
  rw [sign_not_key h1]
  simp only [Bool.false_eq_true,if_false,h1,if_true]
  split
  ·decide
  ·split <;> decide
theorem name_word {s:ByteArray} (h:xBQ s=true):xAQ s≠0:=by rw [yAQ h];decide
theorem xMQ (k:Int) (s:ByteArray) (m:Int) (kk:List T) (pad:ByteArray):lnS (.node k s m kk) pad=layL k s m pad (exSs kk) (lnSs kk (pad++⟨#[32,32]⟩)) (lnSs kk pad) ((kk[2]?.map xtQ).getD true):=by simp only [lnS]
theorem tL_eq (k:Int) (s:ByteArray) (m:Int) (kk:List T):tL (.node k s m kk)=layK k s m (tEs kk) (tLs kk) ((kk[2]?.map xtQ).getD true):=by simp only [tL]
theorem exSs1 (x:T):exSs [x]=[(xdQ x,exS x)]:=by simp only [exSs]
theorem exSs2 (x y:T):exSs [x,y]=[(xdQ x,exS x),(xdQ y,exS y)]:=by simp only [exSs]
theorem exSs3 (x y z:T):exSs [x,y,z]=[(xdQ x,exS x),(xdQ y,exS y),(xdQ z,exS z)]:=by simp only [exSs]
theorem tEs1 (x:T):tEs [x]=[(xdQ x,tE x)]:=by simp only [tEs]
theorem tEs2 (x y:T):tEs [x,y]=[(xdQ x,tE x),(xdQ y,tE y)]:=by simp only [tEs]
theorem tEs3 (x y z:T):tEs [x,y,z]=[(xdQ x,tE x),(xdQ y,tE y),(xdQ z,tE z)]:=by simp only [tEs]
theorem lnSs2 (x y:T) (p:ByteArray):lnSs [x,y] p=[lnS x p,lnS y p]:=by simp only [lnSs]
theorem lnSs3 (x y z:T) (p:ByteArray):lnSs [x,y,z] p=[lnS x p,lnS y p,lnS z p]:=by simp only [lnSs]
theorem tLs2 (x y:T):tLs [x,y]=[tL x,tL y]:=by simp only [tLs]
theorem tLs3 (x y z:T):tLs [x,y,z]=[tL x,tL y,tL z]:=by simp only [tLs]
theorem list_chunk {pad:ByteArray} (kk:List T) (h:∀ t∈kk,∀ F,Chunk (lnS t pad).data.toList (tL t) F) (F:List UInt8→Prop):Chunk (catS (lnSs kk pad)).data.toList (tLs kk).flatten F:=by
 induction kk with
 | nil=>simp only [lnSs,tLs,catS,List.flatten_nil];exact Chunk.nil F
 | cons t r ih =>
  simp only [lnSs,tLs,catS,List.flatten_cons]
  rw [xgQ]
  exact (h t (by simp) (fun _=>True)).app (ih fun x hx=>h x (by simp [hx])) (fun _ _=>trivial)
theorem decl_chunk (t:T) (h:GoodD t) {pad:ByteArray} (hp:Blk pad) (F:List UInt8→Prop):Chunk (lnS t pad).data.toList (tL t) F:=by
 obtain ⟨k,s,m,kk⟩:=t
 cases zGQ h with
 | var h hk hn hm =>
  subst h hk hm
  rw [xMQ,tL_eq]
  show Chunk (ByteArray.data (pad++⟨#[118,97,114,32]⟩++s++⟨#[59,10]⟩)).toList ([]++[⟨#[118,97,114]⟩]++[s]++[⟨#[59]⟩]) F
  rw [xgQ,xgQ,xgQ]
  exact (((zMQ hp (fun _=>True)).app (kw (s:=⟨#[118,97,114]⟩) (yXQ rfl) (fun _=>True)) (fun _ _=>trivial)).app (Chunk.any (name_word hn)) (fun _ _=>trivial)).app (c_semi F) (fun suf _=>gap59 _)
 | arr h hk hn h0 h1 =>
  subst h hk
  obtain ⟨n1,n2⟩:=num_word h0 h1
  rw [xMQ,tL_eq]
  show Chunk (ByteArray.data (pad++⟨#[97,114,114,97,121,32]⟩++s++⟨#[91]⟩++numS m++⟨#[93,59,10]⟩)).toList ([]++[⟨#[97,114,114,97,121]⟩]++[s]++[⟨#[91]⟩]++[numS m]++[⟨#[93]⟩,⟨#[59]⟩]) F
  rw [xgQ,xgQ,xgQ,xgQ,xgQ]
  exact (((((zMQ hp (fun _=>True)).app (kw (s:=⟨#[97,114,114,97,121]⟩) (yXQ rfl) (fun _=>True)) (fun _ _=>trivial)).app (Chunk.any (name_word hn)) (fun _ _=>trivial)).app (Chunk.sign (s:=⟨#[91]⟩) (sg rfl)) (fun suf _=>gap91 _)).app (Chunk.any n1) (fun suf _=>n2.noEq suf)).app (c_sub F) (fun suf _=>gap93 _)
theorem lines_chunk (t:T):(GoodS t∨GoodB t)→∀ {pad:ByteArray},Blk pad→∀ F,Chunk (lnS t pad).data.toList (tL t) F:=by
 refine T.induct (P:=fun t=>(GoodS t∨GoodB t)→∀ {pad:ByteArray},Blk pad→∀ F,Chunk (lnS t pad).data.toList (tL t) F) ?_ t
 intro k s m kk ih hg pad hp F
 rcases hg with hg | hg
 ·have pd:=zMQ hp (fun _=>True)
  have go:∀ {l:List UInt8} {q:List ByteArray} {G:List UInt8→Prop},Chunk l q G→Chunk (pad.data.toList++l) ([]++q) G:=fun h=>pd.app h (fun _ _=>trivial)
  cases zBQ hg with
  | set h x hk hx hn hm =>
   subst h hk hm
   obtain ⟨c1,c2⟩:=zbQ x hx.good
   rw [xMQ,tL_eq,exSs1,tEs1]
   show Chunk (ByteArray.data (pad++s++⟨#[32,61,32]⟩++exS x++⟨#[59,10]⟩)).toList ([]++[s]++[⟨#[61]⟩]++tE x++[⟨#[59]⟩]) F
   rw [xgQ,xgQ,xgQ,xgQ]
   exact (((go (Chunk.any (name_word hn))).app (sp3 (c:=61) (sg rfl) (fun _=>True)) (fun suf _=>gap32 _)).app c1 (fun _ _=>trivial)).app (c_semi F) (fun suf _=>gap59 _)
  | put h x y hk hx hy hn hm =>
   subst h hk hm
   obtain ⟨c1,c2⟩:=zbQ x hx.good
   obtain ⟨d1,d2⟩:=zbQ y hy.good
   rw [xMQ,tL_eq,exSs2,tEs2]
   show Chunk (ByteArray.data (pad++s++⟨#[91]⟩++exS x++⟨#[93,32,61,32]⟩++exS y++⟨#[59,10]⟩)).toList ([]++[s]++[⟨#[91]⟩]++tE x++[⟨#[93]⟩,⟨#[61]⟩]++tE y++[⟨#[59]⟩]) F
   rw [xgQ,xgQ,xgQ,xgQ,xgQ,xgQ]
   exact (((((go (Chunk.any (name_word hn))).app (Chunk.sign (s:=⟨#[91]⟩) (sg rfl)) (fun suf _=>gap91 _)).app c1 (fun suf _=>c2.noEq suf)).app (c_put (fun _=>True)) (fun suf _=>gap93 _)).app d1 (fun _ _=>trivial)).app (c_semi F) (fun suf _=>gap59 _)
  | read h hk hn hm =>
   subst h hk hm
   rw [xMQ,tL_eq]
   show Chunk (ByteArray.data (pad++⟨#[114,101,97,100,32]⟩++s++⟨#[59,10]⟩)).toList ([]++[⟨#[114,101,97,100]⟩]++[s]++[⟨#[59]⟩]) F
   rw [xgQ,xgQ,xgQ]
   exact ((go (kw (s:=⟨#[114,101,97,100]⟩) (yXQ rfl) (fun _=>True))).app (Chunk.any (name_word hn)) (fun _ _=>trivial)).app (c_semi F) (fun suf _=>gap59 _)
  | chec h c hk hc hs hm =>
   subst h hk hs hm
   obtain ⟨c1,c2⟩:=zbQ c hc.good
   rw [xMQ,tL_eq,exSs1,tEs1]
   show Chunk (ByteArray.data (pad++⟨#[99,104,101,99,107,32]⟩++exS c++⟨#[59,10]⟩)).toList ([]++[⟨#[99,104,101,99,107]⟩]++tE c++[⟨#[59]⟩]) F
   rw [xgQ,xgQ,xgQ]
   exact ((go (kw (s:=⟨#[99,104,101,99,107]⟩) (yXQ rfl) (fun _=>True))).app c1 (fun _ _=>trivial)).app (c_semi F) (fun suf _=>gap59 _)
  | skip h hk hs hm =>
   subst h hk hs hm
   rw [xMQ,tL_eq]
   show Chunk (ByteArray.data (pad++⟨#[115,107,105,112,59,10]⟩)).toList ([]++([⟨#[115,107,105,112]⟩]++[⟨#[59]⟩])) F
   rw [xgQ]
   exact go ((Chunk.any (s:=⟨#[115,107,105,112]⟩) (yXQ rfl)).app (c_semi F) (fun suf _=>gap59 _))
  | stop h hk hs hm =>
   subst h hk hs hm
   rw [xMQ,tL_eq]
   show Chunk (ByteArray.data (pad++⟨#[115,116,111,112,59,10]⟩)).toList ([]++([⟨#[115,116,111,112]⟩]++[⟨#[59]⟩])) F
   rw [xgQ]
   exact go ((Chunk.any (s:=⟨#[115,116,111,112]⟩) (yXQ rfl)).app (c_semi F) (fun suf _=>gap59 _))
  | whil h c b hk hc hb hs hm =>
   subst h hk hs hm
   obtain ⟨c1,c2⟩:=zbQ c hc.good
   have b1:=ih b (by simp) (.inr hb) hp.more (fun _=>True)
   rw [xMQ,tL_eq,exSs2,tEs2,lnSs2,tLs2]
   show Chunk (ByteArray.data (pad++⟨#[119,104,105,108,101,32]⟩++exS c++⟨#[32,123,10]⟩++lnS b (pad++⟨#[32,32]⟩)++pad++⟨#[125,10]⟩)).toList ([]++[⟨#[119,104,105,108,101]⟩]++tE c++[⟨#[123]⟩]++tL b++[⟨#[125]⟩]) F
   rw [xgQ,xgQ,xgQ,xgQ,xgQ,xgQ]
   have:=(((((go (kw (s:=⟨#[119,104,105,108,101]⟩) (yXQ rfl) (fun _=>True))).app c1 (fun _ _=>trivial)).app (c_open (fun _=>True)) (fun suf _=>gap32 _)).app b1 (fun _ _=>trivial)).app (zMQ hp (fun _=>True)) (fun _ _=>trivial)).app (c_close F) (fun _ _=>trivial)
   simp only [List.append_nil] at this
   exact this
  | fors h x y b hk hx hy hb hn hm =>
   subst h hk hm
   obtain ⟨c1,c2⟩:=zbQ x hx.good
   obtain ⟨d1,d2⟩:=zbQ y hy.good
   have b1:=ih b (by simp) (.inr hb) hp.more (fun _=>True)
   rw [xMQ,tL_eq,exSs3,tEs3,lnSs3,tLs3]
   show Chunk (ByteArray.data (pad++⟨#[102,111,114,32]⟩++s++⟨#[32,102,114,111,109,32]⟩++exS x++⟨#[32,116,111,32]⟩++exS y++⟨#[32,123,10]⟩++lnS b (pad++⟨#[32,32]⟩)++pad++⟨#[125,10]⟩)).toList ([]++[⟨#[102,111,114]⟩]++[s]++[⟨#[102,114,111,109]⟩]++tE x++[⟨#[116,111]⟩]++tE y++[⟨#[123]⟩]++tL b++[⟨#[125]⟩]) F
   rw [xgQ,xgQ,xgQ,xgQ,xgQ,xgQ,xgQ,xgQ,xgQ,xgQ]
   have:=(((((((((go (kw (s:=⟨#[102,111,114]⟩) (yXQ rfl) (fun _=>True))).app (Chunk.any (name_word hn)) (fun _ _=>trivial)).app (c_mid (s:=⟨#[102,114,111,109]⟩) (yXQ rfl) (fun _=>True)) (fun suf _=>gap32 _)).app c1 (fun _ _=>trivial)).app (c_mid (s:=⟨#[116,111]⟩) (yXQ rfl) (fun _=>True)) (fun suf _=>gap32 _)).app d1 (fun _ _=>trivial)).app (c_open (fun _=>True)) (fun suf _=>gap32 _)).app b1 (fun _ _=>trivial)).app (zMQ hp (fun _=>True)) (fun _ _=>trivial)).app (c_close F) (fun _ _=>trivial)
   simp only [List.append_nil] at this
   exact this
  | ifs h c b d hk hc hb hd hs hm =>
   subst h hk hs hm
   obtain ⟨c1,c2⟩:=zbQ c hc.good
   have b1:=ih b (by simp) (.inr hb) hp.more (fun _=>True)
   have d1:=ih d (by simp) (.inr hd) hp.more (fun _=>True)
   rw [xMQ,tL_eq,exSs3,tEs3,lnSs3,tLs3]
   have hz:((([c,b,d]:List T)[2]?).map xtQ).getD true=xtQ d:=rfl
   rw [hz]
   have hh:=((((go (kw (s:=⟨#[105,102]⟩) (yXQ rfl) (fun _=>True))).app c1 (fun _ _=>trivial)).app (c_open (fun _=>True)) (fun suf _=>gap32 _)).app b1 (fun _ _=>trivial)).app (zMQ hp (fun _=>True)) (fun _ _=>trivial)
   cases xtQ d with
   | true =>
    show Chunk (ByteArray.data (pad++⟨#[105,102,32]⟩++exS c++⟨#[32,123,10]⟩++lnS b (pad++⟨#[32,32]⟩)++pad++⟨#[125,10]⟩)).toList ([]++[⟨#[105,102]⟩]++tE c++[⟨#[123]⟩]++tL b++[⟨#[125]⟩]) F
    rw [xgQ,xgQ,xgQ,xgQ,xgQ,xgQ]
    have:=hh.app (c_close F) (fun _ _=>trivial)
    simp only [List.append_nil] at this
    exact this
   | false =>
    show Chunk (ByteArray.data (pad++⟨#[105,102,32]⟩++exS c++⟨#[32,123,10]⟩++lnS b (pad++⟨#[32,32]⟩)++pad++⟨#[125,32,101,108,115,101,32,123,10]⟩++lnS d (pad++⟨#[32,32]⟩)++pad++⟨#[125,10]⟩)).toList ([]++[⟨#[105,102]⟩]++tE c++[⟨#[123]⟩]++tL b++[⟨#[125]⟩,⟨#[101,108,115,101]⟩,⟨#[123]⟩]++tL d++[⟨#[125]⟩]) F
    rw [xgQ,xgQ,xgQ,xgQ,xgQ,xgQ,xgQ,xgQ,xgQ]
    have:=(((hh.app (c_else (fun _=>True)) (fun _ _=>trivial)).app d1 (fun _ _=>trivial)).app (zMQ hp (fun _=>True)) (fun _ _=>trivial)).app (c_close F) (fun _ _=>trivial)
    simp only [List.append_nil] at this
    exact this
 ·obtain ⟨h1,h2⟩:=hg
  have h2':k=30:=h2
  subst h2'
  obtain ⟨_,_,r3⟩:=yMQ h1
  rw [xMQ,tL_eq]
  exact list_chunk kk (fun t ht G=>ih t ht (.inl (r3 t ht)) hp G) F
theorem prog_chunk {s:ByteArray} {m:Int} {kk:List T} (h:xeQ (.node 40 s m kk)=true) (F:List UInt8→Prop):Chunk (lnS (.node 40 s m kk) ⟨#[]⟩).data.toList (tL (.node 40 s m kk)) F:=by
 obtain ⟨_,_,ds,ss,rfl,hd,hs⟩:=prog_shape h
 rw [xMQ,tL_eq]
 have hp:Blk ⟨#[]⟩:=fun c hc=>by simp at hc
 refine list_chunk _ (fun t ht G=>?_) F
 rcases List.mem_append.1 ht with ht | ht
 ·exact decl_chunk t (hd t ht) hp G
 ·rw [List.mem_singleton] at ht
  subst ht
  obtain ⟨a1,a2⟩:=kid_of h (j:=ds.length) (t:=.node 30 nil_ 0 ss) (by simp)
  exact lines_chunk _ (.inr ⟨a2,rfl⟩) hp G
end Go.Proofs.YtocbgbkdlfkjjaaGreatDoor
