/- CONTRACTS of the program's longestSign, longestWord, and of strings.Clone. -/
import Derived.Test.YtocbgbkdlfkjjaaGreatDoorMHm
set_option maxRecDepth 100000
set_option maxHeartbeats 2000000
namespace Go.Proofs.YtocbgbkdlfkjjaaGreatDoor
open Go.RowKit
open Pl
def signT (t:ByteArray):ByteArray:=if 2≤t.size∧ylQ (t.extract 0 2)=true then t.extract 0 2 else if ylQ (t.extract 0 1)=true then t.extract 0 1 else ⟨#[]⟩
theorem signT_at {t:ByteArray} {n:Nat} (h0:0<n) (h2:n≤2) (hn:n≤t.size) (hs:ylQ (t.extract 0 n)=true) (hb:n≤1→¬(2≤t.size∧ylQ (t.extract 0 2)=true)):signT t=t.extract 0 n:=by
 unfold signT
 by_cases e:n=2
 ·subst e;rw [if_pos ⟨hn,hs⟩]
 ·have e1:n=1:=by omega
  subst e1
  rw [if_neg (hb (Nat.le_refl _)),if_pos hs]
theorem longestSign_any (t:ByteArray) (w:World) (hs:t.size≤4000) (h1:1≤t.size):Calls Tryz.prog 166 #[.string t] w fun e w'=>e=.returned (.string (signT t))∧w=w':=by
 obtain ⟨m,hm⟩:∃ m:Nat,min (2:Int) (t.size:Int)=m:=⟨min 2 t.size,by omega⟩
 have hm2:m≤2∧m≤t.size∧(m≤1→¬ 2≤t.size)∧m≠0:=by omega
 have HM:=xaQ hm2
 clear hm2
 go_enter Tryz.func166,Tryz.ntmps166
 go_wp2
 go_loop [3] (fun v=>∃ n:Nat,v=.int .i64 n∧n≤2∧n≤t.size∧(n≤1→¬(2≤t.size∧ylQ (t.extract 0 2)=true))∧(n=0→ylQ (t.extract 0 1)=false)) (fun v=>(intOf v).toNat)
 case atStart=>exact ⟨m,rfl,HM.out.1,HM.out.2.1,fun h h'=>HM.out.2.2.1 h h'.1,fun h=>absurd h HM.out.2.2.2⟩
 case round =>
  obtain ⟨n,rfl,hn2,hns,hb,hz⟩:=hrel
  have HB:=xaQ hb
  have HZ:=xaQ hz
  clear hb hz hm HM
  by_cases h0:0<(n:Int)
  ·by_cases hsg:ylQ (t.extract 0 n)=true
   ·have HT:=xaQ (signT_at (by omega) hn2 hns hsg HB.out)
    go_wp2_with (go_at_call 168;refine (isSign_any _ _).mono ?_;rintro e w' ⟨rfl,rfl⟩)
    go_ret
    exact ⟨xRQ HT.out.symm,rfl⟩
   ·simp only [Bool.not_eq_true] at hsg
    have HN:Hid ((n - 1≤1→¬(2≤t.size∧ylQ (t.extract 0 2)=true))∧(n - 1=0→ylQ (t.extract 0 1)=false)):=by
     refine ⟨fun h h'=>?_,fun h=>?_⟩
     ·by_cases e:n=2
      ·subst e;rw [hsg] at h';exact absurd h'.2 (by decide)
      ·exact HB.out (by omega) h'
     ·have e:n=1:=by omega
      subst e;exact hsg
    clear HB HZ
    go_wp2_with (go_at_call 168;refine (isSign_any _ _).mono ?_;rintro e w' ⟨rfl,rfl⟩)
    go_round
    case rel=>exact ⟨n - 1,by go_num,by omega,by omega,HN.out.1,HN.out.2⟩
    case measure=>simp [intOf];omega
  ·have HT:=xaQ (show signT t=⟨#[]⟩ by
    unfold signT
    rw [if_neg (HB.out (by omega)),if_neg (by rw [HZ.out (by omega)];decide)])
   clear HB HZ
   go_wp2
   go_ret
   exact ⟨xRQ HT.out.symm,rfl⟩
theorem clone_any (t:ByteArray) (w:World) (hs:t.size≤4000):Calls Tryz.prog 45 #[.string t] w fun e w'=>e=.returned (.string t)∧Below w.heap.size w w':=by
 go_enter Tryz.func45,Tryz.ntmps45
 go_wp2_with (go_at_call 78;refine (Tryz.stringslite_Clone t _ (by omega)).mono ?_;rintro e w1 ⟨rfl,hb1⟩)
 go_ret
 exact ⟨rfl,hb1⟩
def zlQ (t:ByteArray):ByteArray:=if xZQ t 0 then t.extract 0 (runE t 0) else signT t
theorem longestWord_any (t:ByteArray) (w:World) (hs:t.size≤4000) (h1:1≤t.size):Calls Tryz.prog 155 #[.string t] w fun e w'=>e=.returned (.string (zlQ t))∧Below w.heap.size w w':=by
 go_enter Tryz.func155,Tryz.ntmps155
 go_wp2
 go_step3
 go_wp2
 go_step3
 go_wp2
 go_loopw [3] (fun v w'=>∃ pos:Nat,w'=w.iter t pos∧v=.int .i64 pos∧pos≤t.size∧∀ j,0≤j→j<pos→(!xZQ t j)=false) (fun _ w'=>t.size - w'.iterPos w.heap.size)
 case atStart=>exact ⟨0,rfl,rfl,Nat.zero_le _,fun j _ hj=>by omega⟩
 case round =>
  obtain ⟨pos,rfl,rfl,hps,hall⟩:=hrel
  have HA:=xaQ hall
  clear hall
  by_cases hp:pos<t.size
  ·obtain ⟨r,d,hnx,hd1,hl,hg,hr⟩:=next_rune (P:=Tryz.prog) w t pos hp
   by_cases ga:xZQ t pos=true
   ·have HA1:Hid (∀ j,0≤j→j<pos+1→(!xZQ t j)=false):=fun j h0 hj=>by
     rcases (by omega:j<pos∨j=pos) with h | rfl
     ·exact HA.out j h0 h
     ·rw [ga];rfl
    have hlt:byt t pos<128:=by
     unfold xZQ at ga
     rw [Bool.or_eq_true,low_iff,x7Q] at ga
     omega
    have hd:d=1:=(hr hlt).2
    subst hd
    have hor:lowI r=true∨(lowI r=false∧digI r=true):=by
     unfold xZQ at ga
     rw [← hl,← hg] at ga
     revert ga
     cases lowI r <;> simp
    clear hr hl hg hlt ga HA
    rcases hor with g1 | ⟨g1,g2⟩
    ·go_wp2_with (first | (go_at_call 140;refine (yvQ _ _).mono ?_;rintro e w' ⟨rfl,rfl⟩) | (go_at_call 141;refine (xYQ _ _).mono ?_;rintro e w' ⟨rfl,rfl⟩))
     go_roundw
     case rel=>exact ⟨pos+1,rfl,by go_num,by omega,HA1.out⟩
     case measure=>simp;omega
    ·go_wp2_with (first | (go_at_call 140;refine (yvQ _ _).mono ?_;rintro e w' ⟨rfl,rfl⟩) | (go_at_call 141;refine (xYQ _ _).mono ?_;rintro e w' ⟨rfl,rfl⟩))
     go_roundw
     case rel=>exact ⟨pos+1,rfl,by go_num,by omega,HA1.out⟩
     case measure=>simp;omega
   ·simp only [Bool.not_eq_true] at ga
    have hno:lowI r=false∧digI r=false:=by
     unfold xZQ at ga
     rw [← hl,← hg] at ga
     simpa using ga
    obtain ⟨g1,g2⟩:=hno
    have HR:Hid (runE t 0=pos):=zhQ ⟨Nat.zero_le _,hps,HA.out,.inr (by show (!xZQ t pos)=true;rw [ga];rfl)⟩
    clear hr hl hg
    by_cases h0:((pos:Int) == 0)=true
    ·have HF:Hid (zlQ t=signT t):=by
      show _=_
      have e:pos=0:=by simpa using h0
      subst e
      unfold zlQ;rw [if_neg (by simp [ga])]
     clear ga HA HR
     go_wp2_with (first | (go_at_call 140;refine (yvQ _ _).mono ?_;rintro e w' ⟨rfl,rfl⟩) | (go_at_call 141;refine (xYQ _ _).mono ?_;rintro e w' ⟨rfl,rfl⟩) | (go_at_call 166;refine (longestSign_any t _ hs h1).mono ?_;rintro e w' ⟨rfl,rfl⟩))
     try rw [Exit.noGoto_ret]
     go_ret
     exact ⟨xRQ HF.out.symm,yuQ _ _ _⟩
    ·simp only [Bool.not_eq_true] at h0
     have HF:Hid (zlQ t=t.extract 0 pos):=by
      show _=_
      have e:pos≠0:=by simpa using h0
      have h00:=HA.out 0 (Nat.le_refl _) (by omega)
      unfold zlQ
      rw [if_pos (by simpa using h00),HR.out]
     clear ga HA HR
     go_wp2_with (first | (go_at_call 140;refine (yvQ _ _).mono ?_;rintro e w' ⟨rfl,rfl⟩) | (go_at_call 141;refine (xYQ _ _).mono ?_;rintro e w' ⟨rfl,rfl⟩) | (go_at_call 166;refine (longestSign_any t _ hs h1).mono ?_;rintro e w' ⟨rfl,rfl⟩))
     try rw [Exit.noGoto_ret]
     go_ret
     exact ⟨xRQ HF.out.symm,yuQ _ _ _⟩
  ·have hnx:∀ ty,(Instr.next (.pointer (some ⟨w.heap.size,0,none⟩)) true ty).run Tryz.prog (w.iter t pos)=_:=fun ty=>run_next_end w t pos ty hp
   have HR:Hid (runE t 0=pos):=zhQ ⟨Nat.zero_le _,hps,HA.out,.inl (by omega)⟩
   have h0:((pos:Int) == 0)=false:=by simp;omega
   have HF:Hid (zlQ t=t.extract 0 pos):=by
    show _=_
    have h00:=HA.out 0 (Nat.le_refl _) (by omega)
    unfold zlQ
    rw [if_pos (by simpa using h00),HR.out]
   clear HA HR
   go_wp2
   try rw [Exit.noGoto_ret]
   go_ret
   exact ⟨xRQ HF.out.symm,yuQ _ _ _⟩
theorem sign_ascii {t:ByteArray} (h:ylQ t=true) (k:Nat):byt t k<128:=by
 unfold ylQ signs at h
 simp only [List.contains_cons,Bool.or_eq_true,beq_iff_eq,List.contains_nil,Bool.false_eq_true,or_false] at h
 rcases h with h | h | h | h | h | h | h | h | h | h | h | h | h | h | h | h | h | h <;>
  (rw [yxQ,← Lib.toList_data,h];rcases k with _ | _ | k <;> simp)
theorem empty_byt (k:Nat):byt ⟨#[]⟩ k=0:=by
 rw [yxQ];rfl
theorem empty_sign:ylQ ⟨#[]⟩=false:=by
 unfold ylQ
 rw [Lib.toList_data];rfl
theorem kind_zero {t:ByteArray} (h1:lowI (byt t 0)=false) (h2:digI (byt t 0)=false) (h3:ylQ t=false):xAQ t=0:=by
 have hk:keyB t=false:=by
  by_cases k:keyB t=true
  ·rw [(key_low k).1] at h1;cases h1
  ·simpa using k
 have hn:xBQ t=false:=zfQ (by
  simp only [Bool.false_eq_true,iff_false]
  rintro ⟨a,_,_,d⟩
  rcases d 0 (by omega) with e | e
  ·rw [h1] at e;cases e
  ·exact e.1 rfl)
 have hu:numB t=false:=numB_of (by
  simp only [Bool.false_eq_true,iff_false]
  rintro ⟨a,d,_⟩
  have:=d 0 (by omega)
  rw [h2] at this;cases this)
 simp [xAQ,hk,hn,hu,h3]
theorem empty_kind:xAQ ⟨#[]⟩=0:=kind_zero (by rw [empty_byt];rfl) (by rw [empty_byt];rfl) empty_sign
theorem rest_size {s:ByteArray} {p:Nat}:(rest s p).size=s.size - p:=size_ext s p s.size (Nat.le_refl _)
theorem rest_ext {s:ByteArray} {p n:Nat} (h:p+n≤s.size):(rest s p).extract 0 n=s.extract p (p+n):=ext_ext s p s.size 0 n h
theorem rest_alnum {s:ByteArray} {p:Nat} (h:p<s.size):xZQ (rest s p) 0=xZQ s p:=alnum_ext s p s.size 0 (by omega)
theorem found_alnum {s:ByteArray} {p:Nat} (h:p<s.size) (ha:xZQ s p=true):zlQ (rest s p)=s.extract p (endI s p)∧∀ j,p≤j→j<endI s p→byt s j<128:=by
 have e1:endI s p=runE s p:=by simp [endI,ha]
 have e2:=runE_rest (s:=s) (p:=p) (by omega)
 obtain ⟨_,b,c,_⟩:=zzQ (fun j=>!xZQ s j) s.size p (by omega)
 have b':runE s p≤s.size:=b
 refine ⟨?_,fun j h1 h2=>?_⟩
 ·unfold zlQ
  rw [if_pos (by rw [rest_alnum h];exact ha),rest_ext (by omega),e2,e1]
 ·have:(!xZQ s j)=false:=c j h1 (by rw [e1] at h2;exact h2)
  have h3:xZQ s j=true:=by simpa using this
  unfold xZQ at h3
  rw [Bool.or_eq_true,low_iff,x7Q] at h3
  omega
theorem found_sign {s:ByteArray} {p:Nat} (h:p<s.size) (ha:xZQ s p=false) :
    (xAQ (s.extract p (endI s p))=0∧xAQ (zlQ (rest s p))=0)∨(zlQ (rest s p)=s.extract p (endI s p)∧∀ j,p≤j→j<endI s p→byt s j<128):=by
 have hf:zlQ (rest s p)=signT (rest s p):=by unfold zlQ;rw [if_neg (by rw [rest_alnum h,ha];decide)]
 have hz:=rest_size (s:=s) (p:=p)
 by_cases h2:p+1<s.size∧ylQ (s.extract p (p+2))=true
 ·right
  have e1:endI s p=p+2:=by unfold endI;rw [if_neg (by simp [ha]),if_pos h2]
  rw [hf,e1]
  refine ⟨?_,fun j h3 h4=>?_⟩
  ·unfold signT
   rw [rest_ext (by omega),if_pos ⟨by omega,h2.2⟩]
  ·have:=sign_ascii h2.2 (j - p)
   rw [byt_ext s p (p+2) (j - p) (by omega),show p+(j - p)=j by omega] at this
   exact this
 ·have e1:endI s p=p+1:=by unfold endI;rw [if_neg (by simp [ha]),if_neg h2]
  have hb:byt (s.extract p (p+1)) 0=byt s p:=byt_ext s p (p+1) 0 (by omega)
  have hs2:¬ (2≤(rest s p).size∧ylQ ((rest s p).extract 0 2)=true):=by
   rintro ⟨a,b⟩
   rw [rest_ext (by omega)] at b
   exact h2 ⟨by omega,b⟩
  rw [hf,e1]
  unfold signT
  rw [if_neg hs2,rest_ext (by omega)]
  by_cases h1:ylQ (s.extract p (p+1))=true
  ·right
   rw [if_pos h1]
   refine ⟨rfl,fun j h3 h4=>?_⟩
   have:=sign_ascii h1 0
   rw [hb] at this
   rwa [show j=p by omega]
  ·left
   rw [if_neg h1]
   refine ⟨kind_zero ?_ ?_ (by simpa using h1),empty_kind⟩
   ·rw [hb];unfold xZQ at ha;simp at ha;exact ha.1
   ·rw [hb];unfold xZQ at ha;simp at ha;exact ha.2
theorem found_yes {s:ByteArray} {p:Nat} (h:p<s.size) (hk:xAQ (s.extract p (endI s p))≠0):zlQ (rest s p)=s.extract p (endI s p)∧∀ j,p≤j→j<endI s p→byt s j<128:=by
 by_cases ha:xZQ s p=true
 ·exact found_alnum h ha
 ·rcases found_sign h (by simpa using ha) with h1 | h1
  ·exact absurd h1.1 hk
  ·exact h1
theorem found_no {s:ByteArray} {p:Nat} (h:p<s.size) (hk:xAQ (s.extract p (endI s p))=0):xAQ (zlQ (rest s p))=0:=by
 by_cases ha:xZQ s p=true
 ·rw [(found_alnum h ha).1];exact hk
 ·rcases found_sign h (by simpa using ha) with h1 | h1
  ·exact h1.2
  ·rw [h1.1];exact hk
theorem decode_cont (s:ByteArray) (p:Nat):∀ j,1≤j→j<(Utf8.decode s p).2→p+j<s.size∧128≤byt s (p+j):=by
 have key:∀ k,(p+k<s.size && (s.get! (p+k)).toNat / 64 == 2)=true→p+k<s.size∧128≤byt s (p+k):=fun k h=>by
  rw [Bool.and_eq_true,decide_eq_true_eq,beq_iff_eq] at h
  refine ⟨h.1,?_⟩
  rw [zmQ s (p+k) h.1]
  have e:s.get! (p+k)=s[p+k]'h.1:=get_at s (p+k) h.1
  rw [e] at h
  omega
 intro j h1 h2
 simp only [Utf8.decode] at h2
 repeat' split at h2
 all_goals first
  | (simp at h2;omega)
  | (rename_i hc _;simp only [Bool.and_eq_true] at hc;rcases (by simp at h2;omega:j=1∨j=2∨j=3) with rfl | rfl | rfl <;> (try (simp at h2;done)) <;> (apply key;simp_all))
theorem next_at {P:Program} (w:World) (k:Nat) (s:ByteArray) (pos:Nat) (hk:w.heap[k]?=some (.stringIter s pos)) (h:pos<s.size):∃ r d:Nat,
    (∀ ty,(Instr.next (.pointer (some ⟨k,0,none⟩)) true ty).run P w=.ok (.tuple #[.bool true,.int .i64 pos,.int .i32 r]) (w.iterAt k s (pos+d)))∧1≤d∧pos+d≤s.size ∧
    (byt s pos<128→(r:Int)=byt s pos∧d=1)∧(128≤byt s pos→128≤r)∧(∀ j,1≤j→j<d→pos+j<s.size∧128≤byt s (pos+j)):=by
 have hb:=zmQ s pos h
 have hc:=decode_cont s pos
 have hw:∀ d,1≤d→(∀ j,1≤j→j<d→pos+j<s.size∧128≤byt s (pos+j))→pos+d≤s.size:=fun d h1 h2=>by
  by_cases e:d=1
  ·omega
  ·have:=(h2 (d - 1) (by omega) (by omega)).1
   omega
 by_cases ha:(s[pos]'h).toNat<128
 ·have e:=decode_ascii s pos h ha
  rw [e] at hc
  exact ⟨(s[pos]'h).toNat,1,fun ty=>Lib.run_next_ascii_at w k s pos ty hk h ha,Nat.le_refl _,by omega,fun _=>⟨hb.symm,rfl⟩,fun h1=>by omega,hc⟩
 ·have hd:=decode_high s pos h (by omega)
  exact ⟨(Utf8.decode s pos).1,(Utf8.decode s pos).2,fun ty=>Lib.run_next_any_at w k s pos ty hk h,hd.2,hw _ hd.2 hc,fun h1=>by omega,fun _=>hd.1,hc⟩
def Inv (s:ByteArray) (pos done:Nat) (ws:List W3):Prop:=pos≤s.size∧done≤s.size∧(pos<done→(∀ j,pos≤j→j<done→byt s j<128)∨done=s.size∨byt s done=10)∧ws.length≤1500∧scanI s (yoQ s (max done pos)) ws=xkQ s
theorem inv_in {s:ByteArray} {pos done d:Nat} {ws:List W3} (h:Inv s pos done ws) (hlt:pos<done) (h1:1≤d) (hz:pos+d≤s.size) (ha:byt s pos<128→d=1) (hc:∀ j,1≤j→j<d→pos+j<s.size∧128≤byt s (pos+j)):Inv s (pos+d) done ws:=by
 obtain ⟨a,b,c,e,f⟩:=h
 have hle:pos+d≤done:=by
  rcases c hlt with c1 | c1 | c1
  ·have:=ha (c1 pos (Nat.le_refl _) hlt)
   omega
  ·omega
  ·by_cases q:pos+d≤done
   ·exact q
   ·have:=(hc (done - pos) (by omega) (by omega)).2
    rw [show pos+(done - pos)=done by omega] at this
    omega
 refine ⟨hz,b,fun h2=>?_,e,?_⟩
 ·rcases c hlt with c1 | c1
  ·exact .inl fun j h3 h4=>c1 j (by omega) h4
  ·exact .inr c1
 ·rw [show max done (pos+d)=done by omega]
  rw [show max done pos=done by omega] at f
  exact f
theorem inv_blank {s:ByteArray} {pos done:Nat} {ws:List W3} (h:Inv s pos done ws) (hlt:¬ pos<done) (hp:pos<s.size) (hb:yPQ s pos=true):Inv s (pos+1) done ws:=by
 obtain ⟨a,b,c,e,f⟩:=h
 refine ⟨by omega,b,fun h2=>by omega,e,?_⟩
 rw [show max done (pos+1)=pos+1 by omega,← zCQ hp hb]
 rw [show max done pos=pos by omega] at f
 exact f
theorem inv_note {s:ByteArray} {pos done:Nat} {ws:List W3} (h:Inv s pos done ws) (hlt:¬ pos<done) (hp:pos<s.size) (h35:byt s pos=35):Inv s (pos+1) (yIQ s pos) ws:=by
 obtain ⟨a,b,c,e,f⟩:=h
 have hg:=noteE_gt hp h35
 obtain ⟨_,n2,_,n4⟩:=zzQ (fun j=>byt s j == 10) s.size pos (by omega)
 refine ⟨by omega,n2,fun h2=>.inr ?_,e,?_⟩
 ·rcases n4 with n4 | n4
  ·exact .inl n4
  ·exact .inr (by have n5:(byt s (yIQ s pos) == 10)=true:=n4
                  simpa using n5)
 ·rw [show max (yIQ s pos) (pos+1)=yIQ s pos by omega,← skip_note hp h35]
  rw [show max done pos=pos by omega] at f
  exact f
theorem inv_at {s:ByteArray} {pos done:Nat} {ws:List W3} (h:Inv s pos done ws) (hlt:¬ pos<done) (hp:pos<s.size) (hb:yPQ s pos=false) (h35:byt s pos≠35):scanI s pos ws=xkQ s:=by
 obtain ⟨a,b,c,e,f⟩:=h
 rw [show max done pos=pos by omega,skip_stop hp hb h35] at f
 exact f
theorem inv_word {s:ByteArray} {pos done:Nat} {ws:List W3} (h:Inv s pos done ws) (hs:scanI s pos ws=xkQ s) (hp:pos<s.size) (hk:xAQ (s.extract pos (endI s pos))≠0) (hm:ws.length≠1500) :
    Inv s (pos+1) (endI s pos) (ws++[⟨xAQ (s.extract pos (endI s pos)),s.extract pos (endI s pos),pos⟩]):=by
 obtain ⟨a,b,c,e,f⟩:=h
 obtain ⟨g1,g2⟩:=endI_gt hp
 obtain ⟨_,y⟩:=found_yes hp hk
 refine ⟨by omega,g2,fun _=>.inl fun j h1 h2=>y j (by omega) h2,by rw [List.length_append];simp;omega,?_⟩
 rw [show max (endI s pos) (pos+1)=endI s pos by omega,← scan_go hp hk hm]
 exact hs
theorem inv_end {s:ByteArray} {pos done:Nat} {ws:List W3} (h:Inv s pos done ws) (hp:¬ pos<s.size):xkQ s=(ws,0,0):=by
 obtain ⟨a,b,c,e,f⟩:=h
 rw [← f,skip_end (by omega)]
 exact scan_end (by omega)
def St (w:World) (s:ByteArray) (w':World) (pos:Nat) (v:Value) (ws:List W3):Prop :=
 Owns w' (w.heap.size+2) v ws∧w'.heap[w.heap.size]?=some (.cells #[.int .i64 0,.int .i64 0] 85 (0,0))∧w'.heap[w.heap.size+1]?=some (.stringIter s pos)∧Below w.heap.size w w'
theorem St.lt {w w':World} {s:ByteArray} {pos:Nat} {v:Value} {ws:List W3} (h:St w s w' pos v ws):w.heap.size+1<w'.heap.size:=by
 have:=h.2.2.1
 rcases Nat.lt_or_ge (w.heap.size+1) w'.heap.size with h' | h'
 ·exact h'
 ·simp [Array.getElem?_eq_none h'] at this
theorem St.iter {w w':World} {s:ByteArray} {pos:Nat} {v:Value} {ws:List W3} (h:St w s w' pos v ws) (q:Nat):St w s (w'.iterAt (w.heap.size+1) s q) q v ws:=by
 obtain ⟨a,b,c,d⟩:=h
 refine ⟨?_,(Lib.iterAt_other _ _ _ _ _ (by omega)).trans b,Lib.iterAt_heap _ _ _ _ _ c,Lib.below_iterAt d (by omega) _ _⟩
 refine World.ownsRow.kept (row:=some (w.heap.size+1)) a ⟨rfl,rfl,rfl,by rw [Lib.iterAt_size];exact Nat.le_refl _,fun k _ hk=>Lib.iterAt_other _ _ _ _ _ (fun e=>hk (by rw [e]))⟩ (.inr (a.off (by omega)))
theorem St.below {w w' w2:World} {s:ByteArray} {pos:Nat} {v:Value} {ws:List W3} (h:St w s w' pos v ws) (hb:Below w'.heap.size w' w2):St w s w2 pos v ws:=by
 have hl:=h.lt
 obtain ⟨a,b,c,d⟩:=h
 exact ⟨a.below hb,(hb.block _ (by omega)).trans b,(hb.block _ hl).trans c,xbQ d hb⟩
theorem St.grow {w w' w2:World} {s:ByteArray} {pos:Nat} {v v2:Value} {ws ws2:List W3} {o:Obj} (h:St w s w' pos v ws) (hg:(w'.alloc o).grownBy w2 v.ownBlock) (ho:Owns w2 (w.heap.size+2) v2 ws2):St w s w2 pos v2 ws2:=by
 have hl:=h.lt
 obtain ⟨a,b,c,d⟩:=h
 have o1:=a.off (n:=w.heap.size) (by omega)
 have o2:=a.off (n:=w.heap.size+1) (by omega)
 refine ⟨ho,?_,?_,(d.alloc (by omega) o).grown hg (by simp;omega) (fun k hk=>by have:=(World.ownsRow.lt a k hk).1;omega)⟩
 ·rw [hg.block _ (by simp;omega) (fun e=>o1 e.symm),Lib.alloc_old _ _ _ (by omega)];exact b
 ·rw [hg.block _ (by simp;omega) (fun e=>o2 e.symm),Lib.alloc_old _ _ _ hl];exact c
theorem owns_nil (w:World) (base:Nat):Owns w base (.slice none 0 0) []:=World.ownsRow_nil _ _ _ _
theorem fault_nil {w w2:World} {c d:Value} (hN:w2.heap[w.heap.size]?=some (.cells #[.int .i64 0,.int .i64 0] 85 (0,0))) (hB:Below w.heap.size w w2) :
    ((w2.setCell ⟨w.heap.size,0,none⟩ c).setCell ⟨w.heap.size,1,none⟩ d).cell? ⟨w.heap.size,0,none⟩=some c∧((w2.setCell ⟨w.heap.size,0,none⟩ c).setCell ⟨w.heap.size,1,none⟩ d).cell? ⟨w.heap.size,1,none⟩=some d ∧
    Below w.heap.size w ((w2.setCell ⟨w.heap.size,0,none⟩ c).setCell ⟨w.heap.size,1,none⟩ d):=by
 have h2:=two_set (c:=c) (d:=d) hN
 exact ⟨by rw [Lib.cell_of_heap h2];rfl,by rw [Lib.cell_of_heap h2];rfl,(hB.setCell (p:=⟨w.heap.size,0,none⟩) (Nat.le_refl _) _).setCell (p:=⟨w.heap.size,1,none⟩) (Nat.le_refl _) _⟩
theorem St.cells {w w':World} {s:ByteArray} {pos:Nat} {v:Value} {ws:List W3} (h:St w s w' pos v ws):w'.cell? ⟨w.heap.size,0,none⟩=some (.int .i64 0)∧w'.cell? ⟨w.heap.size,1,none⟩=some (.int .i64 0)∧w'.frozen? ⟨w.heap.size,0,none⟩=false∧w'.frozen? ⟨w.heap.size,1,none⟩=false:=by
 have hN:=h.2.1
 exact ⟨by rw [Lib.cell_of_heap hN];rfl,by rw [Lib.cell_of_heap hN];rfl,Lib.frozen_of_heap hN 0,Lib.frozen_of_heap hN 1⟩
theorem ext_le (t:ByteArray) (a b:Nat):(t.extract a b).size≤t.size:=by
 rw [Lib.size_eq,Lib.extract_data,Lib.size_eq]
 simp only [List.length_take,List.length_drop]
 omega
theorem found_size (t:ByteArray):(zlQ t).size≤t.size:=by
 unfold zlQ signT
 split
 ·exact ext_le _ _ _
 ·split
  ·exact ext_le _ _ _
  ·split
   ·exact ext_le _ _ _
   ·exact Nat.zero_le _
theorem iWords_any (s:ByteArray) (w:World) (hs:s.size≤maxLen) :
    Calls Tryz.prog 132 #[.string s] w fun e w'=>∃ v,e=.returned (.tuple #[v,.agg #[.int .i64 (xkQ s).2.1,.int .i64 (xkQ s).2.2]])∧Owns w' w.heap.size v (xkQ s).1∧Below w.heap.size w w':=by
 unfold maxLen at hs
 by_cases h4:4000<(s.size:Int)
 ·have HW:=xaQ (show xkQ s=([],1,0) by unfold xkQ;rw [if_pos (by omega)])
  rw [HW.out]
  go_enter Tryz.func132,Tryz.ntmps132
  go_wp2
  exact bodyPost_ret (v:=.tuple #[.slice none 0 0,.agg #[.int .i64 1,.int .i64 0]]) (by simp [results,Tryz.results132,go_sem]) rfl
   ⟨_,rfl,owns_nil _ _,(Below.refl _ _).alloc (Nat.le_refl _) _⟩
 ·have HW := xaQ (show xkQ s=scanI s (yoQ s 0) [] by unfold xkQ;rw [if_neg (by omega)])
  obtain ⟨i0,hi,hz⟩:=Option.map_eq_some_iff.1 Tryz.info130
  simp only [Prod.mk.injEq] at hz
  obtain ⟨hz0,hz1,hz2⟩:=hz
  have HI:=xaQ (show Tryz.prog.info? 130=some i0∧i0.zero=some (.agg #[.int .i64 0,.string ByteArray.empty,.int .i64 0])∧i0.size=3∧i0.bytes=32 from ⟨hi,hz0,hz1,hz2⟩)
  clear hi hz0 hz1 hz2
  go_enter Tryz.func132,Tryz.ntmps132
  go_wp2
  go_loopw [4,5] (fun o dn w'=>∃ (pos done:Nat) (ws:List W3) (ao:Option Addr) (cap:Nat),dn=.int .i64 done∧o=.slice ao ws.length cap∧St w s w' pos (.slice ao ws.length cap) ws∧Inv s pos done ws) (fun _ _ w'=>s.size - w'.iterPos (w.heap.size+1))
  case atStart =>
   refine ⟨0,0,[],none,0,rfl,rfl,⟨owns_nil _ _,?_,?_,((Below.refl _ _).alloc (Nat.le_refl _) _).alloc (by simp) _⟩,Nat.zero_le _,Nat.zero_le _,fun h=>by omega,by simp,HW.out.symm⟩
   ·show ((w.alloc _).alloc _).heap[_]?=_
    rw [Lib.alloc_old _ _ _ (by simp)]
    exact heap_alloc_new w _
   ·have:=heap_alloc_new (w.alloc (.cells #[.int .i64 0,.int .i64 0] 85)) (.stringIter s 0)
    rw [show (w.alloc (.cells #[.int .i64 0,.int .i64 0] 85)).heap.size=w.heap.size+1 by simp] at this
    exact this
  case round =>
   obtain ⟨pos,done,ws,ao,cap,rfl,rfl,hst,hinv⟩:=hrel
   have HT:=xaQ hst
   have HV:=xaQ hinv
   have hps:=hinv.1
   have hds:=hinv.2.1
   have hwl:=hinv.2.2.2.1
   clear hst hinv HW
   by_cases hp:pos<s.size
   ·obtain ⟨r,d,hnx,hd1,hdz,hr1,hr2,hcont⟩:=next_at (P:=Tryz.prog) wr (w.heap.size+1) s pos HT.out.2.2.1 hp
    have HT1:=xaQ (HT.out.iter (pos+d))
    have hip:(wr.iterPos (w.heap.size+1))=pos:=by simp [World.iterPos,HT.out.2.2.1]
    by_cases hin:(pos:Int)<(done:Int)
    ·have HV1:=xaQ (inv_in HV.out (by omega) hd1 hdz (fun h=>(hr1 h).2) hcont)
     have hip1:(wr.iterAt (w.heap.size+1) s (pos+d)).iterPos (w.heap.size+1)=pos+d:=by simp [World.iterPos,HT1.out.2.2.1]
     have HP:=xaQ hip
     have HP1:=xaQ hip1
     clear hr1 hr2 hcont HT HV hip hip1
     go_wp2
     go_roundw
     case rel=>exact ⟨pos+d,done,ws,ao,cap,rfl,rfl,HT1.out,HV1.out⟩
     case measure=>rw [HP.out,HP1.out];omega
    ·have hip1:(wr.iterAt (w.heap.size+1) s (pos+d)).iterPos (w.heap.size+1)=pos+d:=by simp [World.iterPos,HT1.out.2.2.1]
     have HP:=xaQ hip
     have HP1:=xaQ hip1
     have HC:=xaQ hr1
     have HD:=xaQ hr2
     clear hr1 hr2 hcont HT hip hip1
     by_cases hbl:blkI r=true
     ·have hb:yPQ s pos=true∧d=1:=by
        have hlt:byt s pos<128:=by
         by_cases q:byt s pos<128
         ·exact q
         ·have:=HD.out (by omega)
          unfold blkI at hbl;simp at hbl;omega
        obtain ⟨e1,e2⟩:=HC.out hlt
        refine ⟨?_,e2⟩
        unfold yPQ;rw [← e1];exact hbl
      obtain ⟨hb,hd⟩:=hb
      subst hd
      have HV1:=xaQ (inv_blank HV.out (by omega) hp hb)
      clear hb HV
      go_wp2_with (go_at_call 153;refine (isBlank_any _ _).mono ?_;rintro e w' ⟨rfl,rfl⟩)
      go_roundw
      case rel=>exact ⟨pos+1,done,ws,ao,cap,rfl,rfl,HT1.out,HV1.out⟩
      case measure=>rw [HP.out,HP1.out];omega
     ·simp only [Bool.not_eq_true] at hbl
      have HNB:Hid (yPQ s pos=false):=by
       show _=_
       by_cases q:byt s pos<128
       ·obtain ⟨e1,_⟩:=HC.out q
        unfold yPQ;rw [← e1];exact hbl
       ·unfold yPQ;simp;omega
      by_cases h35:((r:Int) == 35)=true
      ·have hb:byt s pos=35∧d=1:=by
         have hlt:byt s pos<128:=by
          by_cases q:byt s pos<128
          ·exact q
          ·have:=HD.out (by omega)
           simp at h35;omega
         obtain ⟨e1,e2⟩:=HC.out hlt
         refine ⟨?_,e2⟩
         rw [← e1];simpa using h35
       obtain ⟨hb,hd⟩:=hb
       subst hd
       have HV1:=xaQ (inv_note HV.out (by omega) hp hb)
       have HE:Hid (pos+yIQ (s.extract pos s.size) 0=yIQ s pos):=noteE_rest (by omega)
       have hnl:yIQ s pos≤s.size:=noteE_le hps
       have hnn:pos+yIQ (s.extract pos s.size) 0≤s.size:=by have:=HE.out;omega
       clear hb HV
       go_wp2_with (first | (go_at_call 153;refine (isBlank_any _ _).mono ?_;rintro e w' ⟨rfl,rfl⟩) | (go_at_call 154;refine (noteSize_any _ _).mono ?_;rintro e w' ⟨rfl,rfl⟩))
       go_roundw
       case rel=>exact ⟨pos+1,yIQ s pos,ws,ao,cap,by rw [← HE.out];go_num,rfl,HT1.out,HV1.out⟩
       case measure=>rw [HP.out,HP1.out];omega
      ·simp only [Bool.not_eq_true] at h35
       have HN5:Hid (byt s pos≠35):=by
        show _≠_
        intro e
        obtain ⟨e1,_⟩:=HC.out (by omega)
        rw [e1,e] at h35
        simp at h35
       have HS:=xaQ (inv_at HV.out (by omega) hp HNB.out HN5.out)
       clear HNB HN5 HD
       have hrz:1≤(s.extract pos s.size).size∧(s.extract pos s.size).size≤4000:=by
        have:(s.extract pos s.size).size=s.size - pos:=rest_size
        omega
       go_wp2_with (first | (go_at_call 153;refine (isBlank_any _ _).mono ?_;rintro e w' ⟨rfl,rfl⟩) | fail)
       obtain ⟨f,hf⟩:∃ f,f=zlQ (s.extract pos s.size):=⟨_,rfl⟩
       have hfz:f.size≤4000:=by rw [hf];exact Nat.le_trans (found_size _) hrz.2
       have HF:=xaQ hf
       have hcall:=longestWord_any (s.extract pos s.size) (wr.iterAt (w.heap.size+1) s (pos+d)) hrz.2 hrz.1
       rw [← hf] at hcall
       clear hf
       refine hcall.mono ?_
       rintro e w1 ⟨rfl,hb1⟩
       have HT2:=xaQ (HT1.out.below hb1)
       clear hb1 HT1 HP1 hrz hcall
       go_wp2_with fail
       refine (kindOf_any f _ (by unfold maxLen;omega)).mono ?_
       rintro e w2 ⟨rfl,hb2⟩
       have HT3:=xaQ (HT2.out.below hb2)
       clear hb2 HT2
       obtain ⟨c0,c1,f0,f1⟩:=HT3.out.cells
       by_cases hk:xAQ (s.extract pos (endI s pos))=0
       ·have hk0:(xAQ f == 0)=true:=by
          have:xAQ f=0:=by rw [HF.out];exact found_no hp hk
          simpa using this
        have HR:=xaQ (show xkQ s=([],2,(pos:Int)) by rw [← HS.out];exact scan_bad hp hk)
        clear hk HS HF HV HC
        go_wp2
        obtain ⟨q0,q1,q2⟩:=fault_nil (c:=.int .i64 2) (d:=.int .i64 pos) HT3.out.2.1 HT3.out.2.2.2
        exact bodyPost_ret (v:=.tuple #[.slice none 0 0,.agg #[.int .i64 2,.int .i64 pos]]) (by simp [results,Tryz.results132,go_sem,q0,q1]) rfl ⟨_,by rw [HR.out],by rw [HR.out];exact owns_nil _ _,q2⟩
       ·obtain ⟨y1,y2⟩:=found_yes hp hk
        have hfe:f=s.extract pos (endI s pos):=HF.out.trans y1
        have hk0:(xAQ f == 0)=false:=by
         rw [hfe];simpa using hk
        by_cases hm:((ws.length:Int) == 1500)=true
        ·have HR:=xaQ (show xkQ s=([],3,(pos:Int)) by
           rw [← HS.out]
           refine scan_many hp hk ?_
           simp at hm;omega)
         clear hk HS HF HV HC y1 y2 hfe
         go_wp2
         obtain ⟨q0,q1,q2⟩:=fault_nil (c:=.int .i64 3) (d:=.int .i64 pos) HT3.out.2.1 HT3.out.2.2.2
         exact bodyPost_ret (v:=.tuple #[.slice none 0 0,.agg #[.int .i64 3,.int .i64 pos]]) (by simp [results,Tryz.results132,go_sem,q0,q1]) rfl ⟨_,by rw [HR.out],by rw [HR.out];exact owns_nil _ _,q2⟩
        ·have hm0:ws.length≠1500:=by simp at hm;omega
         simp only [Bool.not_eq_true] at hm
         have HV1:=xaQ (inv_word HV.out HS.out hp hk hm0)
         obtain ⟨he1,he2⟩:=endI_gt hp
         have hd:d=1:=(HC.out (y2 pos (Nat.le_refl _) he1)).2
         subst hd
         have hfs:f.size=endI s pos - pos:=by rw [hfe];exact size_ext s pos _ he2
         have HFE:=xaQ hfe
         have HFS:=xaQ hfs
         clear hk HS HF HV HC y1 y2 hfe hfs c0 c1 f0 f1
         go_wp2_with fail
         refine (clone_any f _ hfz).mono ?_
         rintro e w3 ⟨rfl,hb3⟩
         have HT4:=xaQ (HT3.out.below hb3)
         clear hb3 HT3
         have hsz4:w.heap.size+2≤w3.heap.size:=HT4.out.lt
         go_wp2_with (at_builtin;refine wpList_append_lies _ rfl _ _ 122 rfl (w.heap.size+2) 130 i0 (.agg #[.int .i64 0,.string ByteArray.empty,.int .i64 0]) 3 32 Tryz.underlying122 HI.out.1 HI.out.2.1 HI.out.2.2.1 HI.out.2.2.2 rfl (by decide) _ _ _ rfl (HT4.out.1.alloc _) ⟨w3.heap.size,0,none⟩ 1 1 [.int .i64 (xAQ f),.string f,.int .i64 pos] rfl rfl ?c1 ?c2 (by decide) ?c3 ?c4 ?c5 (w3.heap.size+1) (by simp) ?_)
         case c1=>exact three_new _ _ _ _
         case c2=>intro u hu;simp at hu;rcases hu with rfl | rfl | rfl <;> rfl
         case c3=>unfold maxLen;omega
         case c4=>omega
         case c5=>simp;omega
         intro g cap' w4 hown' hgrow _ _
         have HT5:Hid (St w s w4 (pos+1) (.slice (some ⟨g,0,none⟩) (ws.length+1) cap') (ws++[⟨xAQ f,f,pos⟩])):=by
          refine HT4.out.grow hgrow ?_
          unfold Owns
          rw [← flat_snoc,List.length_append]
          exact hown'
         have HP2:Hid (w4.iterPos (w.heap.size+1)=pos+1):=by
          show _=_
          simp [World.iterPos,HT5.out.2.2.1]
         clear hown' hgrow HT4
         go_wp2
         go_roundw
         case rel =>
          refine ⟨pos+1,endI s pos,ws++[⟨xAQ f,f,pos⟩],_,_,?_,by rw [List.length_append];rfl,by rw [List.length_append];exact HT5.out,?_⟩
          ·have:=HFS.out
           congr 1
           omega
          ·rw [HFE.out];exact HV1.out
         case measure=>rw [HP.out,HP2.out];omega
   ·have hnx:∀ ty,(Instr.next (.pointer (some ⟨w.heap.size+1,0,none⟩)) true ty).run Tryz.prog wr=_:=fun ty=>Lib.run_next_end_at wr (w.heap.size+1) s pos ty HT.out.2.2.1 hp
    have HR:=xaQ (inv_end HV.out hp)
    obtain ⟨c0,c1,f0,f1⟩:=HT.out.cells
    go_wp2
    obtain ⟨q0,q1,q2⟩:=fault_nil (c:=.int .i64 0) (d:=.int .i64 0) HT.out.2.1 HT.out.2.2.2
    exact bodyPost_ret (v:=.tuple #[.slice ao ws.length cap,.agg #[.int .i64 0,.int .i64 0]]) (by simp [results,Tryz.results132,go_sem,q0,q1]) rfl
     ⟨_,by rw [HR.out],by rw [HR.out];exact (((HT.out.1.setCell ⟨w.heap.size,0,none⟩ _ (show w.heap.size<w.heap.size+2 by omega)).setCell ⟨w.heap.size,1,none⟩ _ (show w.heap.size<w.heap.size+2 by omega))).mono (by omega),q2⟩
theorem grown_below {a b:World} {r:Option Nat} (h:Below a.heap.size a b):a.grownBy b r:=⟨h.os,h.tape,h.output,h.size,fun i hi _=>h.block i hi⟩
theorem scan_len (s:ByteArray) (at_:Nat) (acc:List W3) (h:acc.length≤1500):(scanI s at_ acc).1.length≤1500:=by
 generalize hf:s.size - at_=f
 induction f using Nat.strongRecOn generalizing at_ acc with
 | _ f ih =>
  by_cases h1:at_<s.size
  ·by_cases hk:xAQ (s.extract at_ (endI s at_))=0
   ·rw [scan_bad h1 hk];simp
   ·by_cases hm:acc.length=1500
    ·rw [scan_many h1 hk hm];simp
    ·rw [scan_go h1 hk hm]
     have h2:=endI_gt h1
     have h3:=skip_ge s (endI s at_)
     exact ih (s.size - yoQ s (endI s at_)) (by omega) _ _ (by rw [List.length_append];simp;omega) rfl
  ·rw [scan_end h1];exact h
theorem words_len (s:ByteArray):(xkQ s).1.length≤1500:=by
 unfold xkQ
 split
 ·simp
 ·exact scan_len _ _ _ (by simp)
theorem Owns.some {w:World} {base:Nat} {v:Value} {ws:List W3} (h:Owns w base v ws) (hne:ws.length≠0):∃ g cap,v=.slice (some ⟨g,0,none⟩) ws.length cap:=by
 rcases h.2 with ⟨_,h0⟩ | ⟨g,cap,cur,rfl,_⟩
 ·exact absurd h0 hne
 ·exact ⟨_,_,rfl⟩
theorem all_low {s:ByteArray} {l:List UInt8} (h:s.toList=l) (ha:l.all (fun c=>lowI c.toNat)=true) (j:Nat) (hj:j<s.size):xZQ s j=true:=by
 rw [Lib.toList_data] at h
 have hl:j<l.length:=by rw [← h,← Lib.size_eq];exact hj
 unfold xZQ
 rw [yxQ,h,List.getD_eq_getElem?_getD,List.getElem?_eq_getElem hl]
 have:=(List.all_eq_true.1 ha) l[j] (List.getElem_mem _)
 simp only [Option.getD_some]
 rw [this];rfl
theorem key_alnum {s:ByteArray} (h:keyB s=true) (j:Nat) (hj:j<s.size):xZQ s j=true:=by
 unfold keyB keys at h
 simp only [List.contains_cons,Bool.or_eq_true,beq_iff_eq,List.contains_nil,Bool.false_eq_true,or_false] at h
 rcases h with h | h | h | h | h | h | h | h | h | h | h | h | h <;> exact all_low h rfl j hj
theorem sign_facts {s:ByteArray} (h:ylQ s=true):(s.size=1∨(s.size=2∧byt s 1=61))∧xZQ s 0=false∧yPQ s 0=false∧byt s 0≠35:=by
 unfold ylQ signs at h
 simp only [List.contains_cons,Bool.or_eq_true,beq_iff_eq,List.contains_nil,Bool.false_eq_true,or_false] at h
 unfold xZQ yPQ
 rw [Lib.size_eq,yxQ,yxQ]
 rw [Lib.toList_data] at h
 rcases h with h | h | h | h | h | h | h | h | h | h | h | h | h | h | h | h | h | h <;> (rw [h];refine ⟨?_,?_,?_,?_⟩ <;> simp [lowI,digI])
theorem word_shape {s:ByteArray} (h:xAQ s≠0):1≤s.size∧((∀ j,j<s.size→xZQ s j=true)∨ylQ s=true):=by
 by_cases hk:keyB s=true
 ·exact ⟨(key_low hk).2,.inl (key_alnum hk)⟩
 ·by_cases hn:xBQ s=true
  ·have hp:zXQ s:=by simpa [xBQ] using hn
   refine ⟨hp.1,.inl fun j hj=>?_⟩
   unfold xZQ
   rcases hp.2.2.2 j hj with e | e
   ·rw [e];rfl
   ·rw [e.2];simp
  ·by_cases hu:numB s=true
   ·have hp:numP s:=by simpa [numB] using hu
    refine ⟨hp.1,.inl fun j hj=>?_⟩
    unfold xZQ
    rw [hp.2.1 j hj];simp
   ·by_cases hs:ylQ s=true
    ·have:=(sign_facts hs).1
     exact ⟨by omega,.inr hs⟩
    ·exfalso
     apply h
     simp at hk hn hu hs
     simp [xAQ,hk,hn,hu,hs]
theorem within {T:ByteArray} {pre suf:List UInt8} {s:ByteArray} (h:T.data.toList=pre++(s.data.toList++suf)) :
    pre.length+s.size≤T.size∧T.extract pre.length (pre.length+s.size)=s∧(∀ j,j<s.size→byt T (pre.length+j)=byt s j)∧(suf=[]→pre.length+s.size=T.size)∧(∀ c r,suf=c :: r→pre.length+s.size<T.size∧byt T (pre.length+s.size)=(c.toNat:Int)):=by
 have hz:T.size=pre.length+(s.size+suf.length):=by rw [Lib.size_eq,h,Lib.size_eq];simp
 refine ⟨by omega,?_,fun j hj=>?_,fun e=>?_,fun c r e=>?_⟩
 ·rw [Lib.extract_eq,h,List.drop_left' rfl,show pre.length+s.size - pre.length=s.size by omega,List.take_left' (Lib.size_eq s).symm,Lib.mk_data]
 ·rw [yxQ,yxQ,h,List.getD_eq_getElem?_getD,List.getD_eq_getElem?_getD,List.getElem?_append_right (by omega),show pre.length+j - pre.length=j by omega,List.getElem?_append_left (by rw [← Lib.size_eq];exact hj)]
 ·subst e;simp at hz;omega
 ·subst e
  refine ⟨by simp at hz;omega,?_⟩
  rw [yxQ,h,List.getD_eq_getElem?_getD,List.getElem?_append_right (by omega),show pre.length+s.size - pre.length=s.size by omega,List.getElem?_append_right (by rw [← Lib.size_eq];omega),← Lib.size_eq,Nat.sub_self]
  rfl
def alW (s:ByteArray):Prop:=∀ j,j<s.size→xZQ s j=true
def Sep (suf:List UInt8):Prop:=suf=[]∨∃ c r,suf=c :: r∧(lowI c.toNat || digI c.toNat)=false
def NoEq (suf:List UInt8):Prop:=suf=[]∨∃ c r,suf=c :: r∧c.toNat≠61
theorem end_of {T:ByteArray} {pre suf:List UInt8} {s:ByteArray} (h:T.data.toList=pre++(s.data.toList++suf)) (hk:xAQ s≠0) (ha1:alW s→Sep suf) (hs1:ylQ s=true→s.size=2∨NoEq suf) :
    pre.length<T.size∧endI T pre.length=pre.length+s.size∧T.extract pre.length (endI T pre.length)=s∧yoQ T pre.length=pre.length:=by
 obtain ⟨w1,w2,w3,w4,w5⟩:=within h
 obtain ⟨h1,hsh⟩:=word_shape hk
 have hp:pre.length<T.size:=by omega
 have b0:=w3 0 (by omega)
 rw [Nat.add_zero] at b0
 have hend:endI T pre.length=pre.length+s.size:=by
  rcases hsh with hal | hsg
  ·have ha:xZQ T pre.length=true:=by unfold xZQ;rw [b0];exact hal 0 (by omega)
   unfold endI
   rw [if_pos ha]
   refine zhQ ⟨by omega,w1,fun j j1 j2=>?_,?_⟩
   ·have:=hal (j - pre.length) (by omega)
    have e:=w3 (j - pre.length) (by omega)
    rw [show pre.length+(j - pre.length)=j by omega] at e
    show (!xZQ T j)=false
    unfold xZQ at this ⊢
    rw [e,this];rfl
   ·rcases ha1 hal with e | ⟨c,r,e,hc⟩
    ·exact .inl (w4 e)
    ·refine .inr ?_
     show (!xZQ T (pre.length+s.size))=true
     unfold xZQ
     rw [(w5 _ _ e).2,hc];rfl
  ·obtain ⟨f1,f2,_,_⟩:=sign_facts hsg
   have ha:xZQ T pre.length=false:=by unfold xZQ at f2 ⊢;rw [b0];exact f2
   unfold endI
   rw [if_neg (by simp [ha])]
   rcases f1 with f1 | ⟨f1,_⟩
   ·rw [if_neg]
    ·omega
    ·rintro ⟨g1,g2⟩
     rcases hs1 hsg with e | e | ⟨c,r,e,hc⟩
     ·omega
     ·have:=w4 e;omega
     ·obtain ⟨f3,_⟩:=sign_facts g2
      have hz:(T.extract pre.length (pre.length+2)).size=2:=by rw [size_ext _ _ _ (by omega)];omega
      have hb:byt (T.extract pre.length (pre.length+2)) 1=byt T (pre.length+1):=byt_ext _ _ _ 1 (by omega)
      have h32:=(w5 _ _ e).2
      rw [f1] at h32
      rw [h32] at hb
      rcases f3 with f3 | ⟨_,f3⟩
      ·omega
      ·rw [hb] at f3;omega
   ·rw [if_pos]
    ·omega
    ·rw [f1] at w1 w2
     exact ⟨by omega,by rw [w2];exact hsg⟩
 refine ⟨hp,hend,by rw [hend];exact w2,?_⟩
 rcases hsh with hal | hsg
 ·have ha:=hal 0 (by omega)
  unfold xZQ at ha
  rw [Bool.or_eq_true,low_iff,x7Q] at ha
  refine skip_stop hp ?_ (by rw [b0];omega)
  unfold yPQ
  rw [b0];simp;omega
 ·obtain ⟨_,_,f3,f4⟩:=sign_facts hsg
  exact skip_stop hp (by unfold yPQ at f3 ⊢;rw [b0];exact f3) (by rw [b0];exact f4)
def Reads (T:ByteArray) (p q:Nat) (toks:List ByteArray):Prop:=∀ acc:List W3,∃ W:List W3,W.map W3.s=toks∧(∀ x∈W,xAQ x.s=x.k∧x.k≠0)∧((scanI T (yoQ T p) acc).2.1=0→scanI T (yoQ T p) acc=scanI T (yoQ T q) (acc++W))
theorem Reads.nil (T:ByteArray) (p:Nat):Reads T p p []:=fun acc=>⟨[],rfl,fun x hx=>(by cases hx),fun _=>by rw [List.append_nil]⟩
theorem Reads.trans {T:ByteArray} {p q r:Nat} {a b:List ByteArray} (h1:Reads T p q a) (h2:Reads T q r b):Reads T p r (a++b):=fun acc=>by
 obtain ⟨W1,e1,k1,g1⟩:=h1 acc
 obtain ⟨W2,e2,k2,g2⟩:=h2 (acc++W1)
 refine ⟨W1++W2,by rw [List.map_append,e1,e2],fun x hx=>?_,fun h=>?_⟩
 ·rcases List.mem_append.1 hx with hx | hx
  ·exact k1 x hx
  ·exact k2 x hx
 ·have:=g1 h
  rw [this] at h ⊢
  rw [g2 h,List.append_assoc]
def Chunk (l:List UInt8) (toks:List ByteArray) (F:List UInt8→Prop):Prop:=∀ (T:ByteArray) (pre suf:List UInt8),T.data.toList=pre++(l++suf)→F suf→Reads T pre.length (pre.length+l.length) toks
theorem Chunk.app {l1 l2:List UInt8} {t1 t2:List ByteArray} {F1 F2:List UInt8→Prop} (h1:Chunk l1 t1 F1) (h2:Chunk l2 t2 F2) (hF:∀ suf,F2 suf→F1 (l2++suf)):Chunk (l1++l2) (t1++t2) F2:=fun T pre suf hT hs=>by
 have a:=h1 T pre (l2++suf) (by rw [hT,List.append_assoc]) (hF suf hs)
 have b:=h2 T (pre++l1) suf (by rw [hT];simp) hs
 rw [List.length_append] at b
 have:=a.trans b
 rwa [List.length_append,← Nat.add_assoc]
theorem Chunk.weak {l:List UInt8} {t:List ByteArray} {F G:List UInt8→Prop} (h:Chunk l t F) (hG:∀ s,G s→F s):Chunk l t G:=fun T pre suf hT hs=>h T pre suf hT (hG suf hs)
theorem Chunk.nil (F:List UInt8→Prop):Chunk [] [] F:=fun T pre _ _ _=>by
 rw [List.length_nil,Nat.add_zero];exact Reads.nil T _
theorem Chunk.word {s:ByteArray} (hk:xAQ s≠0):Chunk s.data.toList [s] (fun suf=>(alW s→Sep suf)∧(ylQ s=true→s.size=2∨NoEq suf)):=fun T pre suf hT hs acc=>by
 obtain ⟨p1,p2,p3,p4⟩:=end_of hT hk hs.1 hs.2
 refine ⟨[⟨xAQ s,s,pre.length⟩],rfl,fun x hx=>?_,fun h=>?_⟩
 ·rw [List.mem_singleton] at hx;subst hx;exact ⟨rfl,hk⟩
 ·rw [p4] at h ⊢
  by_cases hm:acc.length=1500
  ·rw [scan_many p1 (by rw [p3];exact hk) hm] at h;cases h
  ·rw [scan_go p1 (by rw [p3];exact hk) hm,p3,p2,← Lib.size_eq]
theorem Chunk.blank {c:UInt8} (hc:c.toNat=32∨c.toNat=10) (F:List UInt8→Prop):Chunk [c] [] F:=fun T pre suf hT _ acc=>by
 refine ⟨[],rfl,fun x hx=>(by cases hx),fun _=>?_⟩
 have hl:T.size=pre.length+(1+suf.length):=by rw [Lib.size_eq,hT];simp;omega
 have hb:byt T pre.length=(c.toNat:Int):=by
  rw [yxQ,hT,List.getD_eq_getElem?_getD,List.getElem?_append_right (Nat.le_refl _),Nat.sub_self];rfl
 rw [zCQ (by omega) (by unfold yPQ;rw [hb];rcases hc with e | e <;> rw [e] <;> rfl),List.append_nil];rfl
def Gap (suf:List UInt8):Prop:=suf=[]∨∃ c r,suf=c :: r∧(lowI c.toNat || digI c.toNat)=false∧c.toNat≠61
theorem Gap.sep {suf:List UInt8} (h:Gap suf):Sep suf:=by
 rcases h with h | ⟨c,r,h,h1,_⟩
 ·exact .inl h
 ·exact .inr ⟨c,r,h,h1⟩
theorem Gap.noEq {suf:List UInt8} (h:Gap suf):NoEq suf:=by
 rcases h with h | ⟨c,r,h,_,h1⟩
 ·exact .inl h
 ·exact .inr ⟨c,r,h,h1⟩
theorem Gap.at {c:UInt8} (r:List UInt8) (h:((lowI c.toNat || digI c.toNat)=false∧c.toNat≠61)):Gap (c :: r):=.inr ⟨c,r,rfl,h⟩
theorem Chunk.any {s:ByteArray} (hk:xAQ s≠0):Chunk s.data.toList [s] Gap:=(Chunk.word hk).weak fun _ h=>⟨fun _=>h.sep,fun _=>.inr h.noEq⟩
theorem Chunk.sign {s:ByteArray} (hk:ylQ s=true):Chunk s.data.toList [s] NoEq:=by
 have h0:xAQ s≠0:=by
  have h1:=sign_not_key hk
  unfold xAQ
  rw [h1]
  simp only [Bool.false_eq_true,if_false,hk,if_true]
  split
  ·decide
  ·split <;> decide
 refine (Chunk.word h0).weak fun _ h=>⟨fun ha=>?_,fun _=>.inr h⟩
 have:=sign_facts hk
 have h2:=ha 0 (by have:=this.1;omega)
 rw [this.2.1] at h2;cases h2
theorem chunk_words {l:List UInt8} {toks:List ByteArray} (h:Chunk l toks Gap) (hc:(xkQ ⟨l.toArray⟩).2.1=0):(xkQ ⟨l.toArray⟩).1.map W3.s=toks∧∀ x∈(xkQ ⟨l.toArray⟩).1,xAQ x.s=x.k∧x.k≠0:=by
 have hz:(ByteArray.mk l.toArray).size=l.length:=by simp [ByteArray.size]
 unfold xkQ at hc ⊢
 split at hc
 ·cases hc
 ·rename_i hn
  rw [if_neg hn]
  obtain ⟨W,e,k,g⟩:=h ⟨l.toArray⟩ [] [] (by simp) (.inl rfl) []
  simp only [List.length_nil,Nat.zero_add,List.nil_append] at g
  have:=g hc
  rw [this,skip_end (by omega),scan_end (by omega)]
  exact ⟨e,k⟩
end Go.Proofs.YtocbgbkdlfkjjaaGreatDoor
