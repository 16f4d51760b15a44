/-
  FnImages, walked.
-/
import Derived.Test.YtdcphheeapmjcaaFii
import Derived.Test.YtdcphheeapmjcaaIcl
import Derived.Test.YtdcphheeapmjcaaIjr
namespace Go.Proofs.Ytdcphheeapmjcaa
open Go.ChangeShapes Go.WideShapes Go.ChangeAt Go.RowKit Go.Deep
open Wd
theorem wordB_mk' {l : List UInt8} (h : ∀ c ∈ l, isL c = true) (hm : l.length ≤ 40) : wordB l = true := by
  unfold wordB lets
  rw [Bool.and_eq_true, List.all_eq_true]
  exact ⟨h, by simpa using hm⟩
theorem join_ok' {u v : List UInt8} (hu : wordB u = true) (hv : wordB v = true) {r : List UInt8} (hr : red (u ++ v) = r) (hl : r.length ≤ 40) (w : World) : Calls Try.prog 40 #[.string (txt u), .string (txt v)] w (TextPost r 0 w) := by
  have := ijoin_any u v (by have := wordB_len hu; omega) (by have := wordB_len hv; omega) w
  rw [hr] at this
  simpa [hu, hv, hl] using this
theorem apply_ok {a : Option Addr} {cap : Nat} {L : List (List UInt8)} (hL : SFew L) (hI : imgB L = true) {l : List UInt8} (hw : wordB l = true) {r : List UInt8} (hr : red (apL L l) = r) (hl : r.length ≤ 40) (w : World) (h : SRow w.heap.size w a L) :
    Calls Try.prog 32 #[.slice a L.length cap, .string (txt l)] w (TextPost r 0 w) := by
  have := iapply_any a cap L hL l (by have := wordB_len hw; omega) w h
  have e1 : apT L l = r := by unfold apT; rw [if_pos ⟨hI, hw⟩, hr, if_pos hl]
  have e2 : apK L l = 0 := by unfold apK; rw [if_pos ⟨hI, hw⟩, hr, if_pos hl]
  rw [e1, e2] at this
  exact this
theorem Shrt.len {m : Nat} {L : List (List UInt8)} (h : Shrt m L) (h4 : L.length = 4) {c : UInt8} (hc : isL c = true) : (imgC L c).length ≤ m := by
  obtain ⟨j, hj, e | e⟩ := lnum_two hc
  · unfold imgC
    rw [e, show (2 * (j : Int)).toNat = 2 * j by omega, if_pos (by omega), show 2 * j / 2 = j by omega, List.getElem?_eq_getElem (by omega)]
    exact (h j (by omega)).2.1
  · unfold imgC
    rw [e, show (2 * (j : Int) + 1).toNat = 2 * j + 1 by omega, if_neg (by omega), show (2 * j + 1) / 2 = j by omega, inv_length, List.getElem?_eq_getElem (by omega)]
    exact (h j (by omega)).2.1
theorem Shrt.apL {m : Nat} {L : List (List UInt8)} (h : Shrt m L) (h4 : L.length = 4) : ∀ l : List UInt8, (∀ c ∈ l, isL c = true) → (apL L l).length ≤ m * l.length
  | [], _ => by simp [Go.Proofs.Ytdcphheeapmjcaa.apL]
  | c :: l, hl => by
    have h1 := h.len h4 (hl c (by simp))
    have h2 := Shrt.apL h h4 l (fun x hx => hl x (by simp [hx]))
    unfold Go.Proofs.Ytdcphheeapmjcaa.apL at h2 ⊢
    rw [List.flatMap_cons, List.length_append, List.length_cons, Nat.mul_succ]
    omega
theorem Shrt.few {m : Nat} {L : List (List UInt8)} (h : Shrt m L) (h4 : L.length = 4) (hm : m ≤ 40) : SFew L := ⟨by omega, fun i hi => by have := (h i hi).2.1; omega⟩
theorem Shrt.cmT {F G : List (List UInt8)} (hF : Shrt 2 F) (hG : Shrt 2 G) (f4 : F.length = 4) (g4 : G.length = 4) : Shrt 4 (cmT F G) := by
  intro i hi
  have hi' : i < F.length := by simpa [Go.Proofs.Ytdcphheeapmjcaa.cmT] using hi
  obtain ⟨h1, h2, h3⟩ := hF i hi'
  have e : (Go.Proofs.Ytdcphheeapmjcaa.cmT F G)[i] = red (Go.Proofs.Ytdcphheeapmjcaa.apL G F[i]) := by simp [Go.Proofs.Ytdcphheeapmjcaa.cmT]
  rw [e]
  have hl := hG.apL g4 F[i] h1
  have hr := red_length (Go.Proofs.Ytdcphheeapmjcaa.apL G F[i])
  refine ⟨red_letters (apL_lets (hG.imgs g4 (by omega)) h1), ?_, red_red _⟩
  have : 2 * F[i].length ≤ 4 := by omega
  omega
set_option maxHeartbeats 8000000 in
set_option maxRecDepth 20000 in
theorem fimages_core (a : Option Addr) (len cap : Nat) (a2 : Option Addr) (len2 cap2 : Nat) (w : World) (h : BRow w.heap.size w a len) (h2 : BRow w.heap.size w a2 len2) (hl : len ≤ 3000) (hl2 : len2 ≤ 3000) :
    Calls Try.prog 13 #[.slice a len cap, .slice a2 len2 cap2] w fun e w' => e = .returned (.bool true) ∧ Below w.heap.size w w' := by
  have H := Lib.hid h
  have H2 := Lib.hid h2
  have HL := Lib.hid hl
  have HL2 := Lib.hid hl2
  have LONG : Hid (∀ w, Calls Try.prog 37 #[.slice a len cap, .slice a2 len2 cap2] w fun e w' => e = .returned (.bool false) ∧ w = w') := Lib.hid fun w => by
    have := a2long_any a len cap a2 len2 cap2 w
    rwa [show (decide (3000 < len) || decide (3000 < len2)) = false by simp; omega] at this
  clear h h2 hl hl2
  go_enter Try.func13, Try.ntmps13
  go_wp2_with fail
  refine (LONG.out _).mono ?_
  rintro e w' ⟨rfl, rfl⟩
  clear LONG
  go_wp2_with fail
  refine (a2images_any len cap a 2 (by omega) (by omega) (by have := HL.out; omega) _ H.out).mono ?_
  rintro e w1 ⟨vF, F, rfl, oF, sF, f4, b⟩
  obtain ⟨aF, cF, rfl, rF⟩ := oF.form
  have B1 := Lib.hid b
  have H11 : Hid (BRow w1.heap.size w1 a len) := Lib.hid (brow_later' H.out b)
  have H21 : Hid (BRow w1.heap.size w1 a2 len2) := Lib.hid (brow_later' H2.out b)
  have RF1 := Lib.hid rF
  have SF := Lib.hid sF
  have F4 := Lib.hid f4
  clear b oF rF sF f4 H H2
  go_wp2_with fail
  refine (a2images_any len2 cap2 a2 2 (by omega) (by omega) (by have := HL2.out; omega) _ H21.out).mono ?_
  rintro e w2 ⟨vG, G, rfl, oG, sG, g4, b⟩
  obtain ⟨aG, cG, rfl, rG⟩ := oG.form
  have B2 : Hid (Below w.heap.size w w2) := Lib.hid (B1.out.trans (b.mono B1.out.size))
  have H12 : Hid (BRow w2.heap.size w2 a len) := Lib.hid (brow_later' H11.out b)
  have H22 : Hid (BRow w2.heap.size w2 a2 len2) := Lib.hid (brow_later' H21.out b)
  have RF2 := Lib.hid (RF1.out.later b)
  have RG2 := Lib.hid rG
  have SG := Lib.hid sG
  have G4 := Lib.hid g4
  clear b oG rG sG g4 H11 H21 RF1 B1
  go_wp2_with fail
  refine (a2word_any len2 cap2 a2 4 (by omega) (by omega) 4 (by omega) (by omega) (by have := HL2.out; omega) _ H22.out).mono ?_
  rintro e w3 ⟨⟨u, hu, hu4, rfl⟩, b⟩
  have B3 : Hid (Below w.heap.size w w3) := Lib.hid (B2.out.trans (b.mono B2.out.size))
  have H13 : Hid (BRow w3.heap.size w3 a len) := Lib.hid (brow_later' H12.out b)
  have RF3 := Lib.hid (RF2.out.later b)
  have RG3 := Lib.hid (RG2.out.later b)
  have U := Lib.hid hu
  have U4 := Lib.hid hu4
  clear b hu hu4 B2 H12 H22 RF2 RG2
  have BA : Hid (BRow w3.heap.size (w3.alloc (.cells #[.int .u8 7] 5)) a len) := Lib.hid (H13.out.below ((Below.refl _ w3).alloc (Nat.le_refl _) _))
  have BN : Hid ((w3.alloc (.cells #[.int .u8 7] 5)).heap[w3.heap.size]? = some (.cells #[.int .u8 (((7 : UInt8).toNat : Nat) : Int)] 5 (0, 0))) := Lib.hid (World.alloc_heap_new w3 _)
  have BS : Hid (w3.heap.size ≤ (w3.alloc (.cells #[.int .u8 7] 5)).heap.size) := Lib.hid (by simp)
  have B3A : Hid (Below w3.heap.size w3 (w3.alloc (.cells #[.int .u8 7] 5))) := Lib.hid ((Below.refl _ w3).alloc (Nat.le_refl _) _)
  go_wp2_with (at_builtin; refine wpList_append_pre rfl _ _ rfl w3.heap.size 7 rfl BN.out a len cap rfl BA.out (by have := HL.out; omega) BS.out ?_)
  intro q cap' w4 hq b
  have HQ := Lib.hid hq
  have B34 : Hid (Below w3.heap.size w3 w4) := Lib.hid (B3A.out.trans b)
  have B4 : Hid (Below w.heap.size w w4) := Lib.hid (B3.out.trans (B34.out.mono B3.out.size))
  have RF4 := Lib.hid (RF3.out.later B34.out)
  have RG4 := Lib.hid (RG3.out.later B34.out)
  clear hq b BA BN BS B3A B3 H13 B34 RF3 RG3
  go_wp2_with fail
  refine (a2word_any (len + 1) cap' q 4 (by omega) (by omega) 4 (by omega) (by omega) (by have := HL.out; omega) _ HQ.out).mono ?_
  rintro e w5 ⟨⟨v, hv, hv4, rfl⟩, b⟩
  have B5 : Hid (Below w.heap.size w w5) := Lib.hid (B4.out.trans (b.mono B4.out.size))
  have RF5 := Lib.hid (RF4.out.later b)
  have RG5 := Lib.hid (RG4.out.later b)
  have V := Lib.hid hv
  have V4 := Lib.hid hv4
  clear b hv hv4 B4 HQ RF4 RG4
  -- plain facts
  have IF := SF.out.imgs F4.out (by omega)
  have IG := SG.out.imgs G4.out (by omega)
  have SM := Shrt.cmT SF.out SG.out F4.out G4.out
  have M4 : (cmT F G).length = 4 := by simp [cmT, F4.out]
  have IM := SM.imgs M4 (by omega)
  have FF := SF.out.few F4.out (by omega)
  have FG := SG.out.few G4.out (by omega)
  have FM := SM.few M4 (by omega)
  have hUV : ∀ c ∈ u ++ v, isL c = true := fun c hc => (List.mem_append.1 hc).elim (U.out c) (V.out c)
  have WU := wordB_mk' U.out (by have := U4.out; omega)
  have WV := wordB_mk' V.out (by have := V4.out; omega)
  have WUV := wordB_mk' hUV (by have := U4.out; have := V4.out; simp; omega)
  have lA : (red (apL F u)).length ≤ 8 := by have := SF.out.apL F4.out u U.out; have := red_length (apL F u); have := U4.out; omega
  have lB : (red (apL F v)).length ≤ 8 := by have := SF.out.apL F4.out v V.out; have := red_length (apL F v); have := V4.out; omega
  have lC : (red (apL F (u ++ v))).length ≤ 16 := by have := SF.out.apL F4.out (u ++ v) hUV; have := red_length (apL F (u ++ v)); have := U4.out; have := V4.out; simp at *; omega
  have LA := red_letters (apL_lets IF U.out)
  have LB := red_letters (apL_lets IF V.out)
  have WA := wordB_mk' LA (by omega)
  have WB := wordB_mk' LB (by omega)
  have eJ : red (red (apL F u) ++ red (apL F v)) = red (apL F (u ++ v)) := by
    rw [red_left (apL_lets IF V.out), red_app, apL_app]
  have eX : red (apL (cmT F G) u) = red (apL G (red (apL F u))) := by
    rw [apL_cmT IF IG u U.out, apL_red IG _ (apL_lets IF U.out)]
  have lX : (red (apL G (red (apL F u)))).length ≤ 16 := by have := SG.out.apL G4.out _ LA; have := red_length (apL G (red (apL F u))); omega
  have eR : cmR F G = cmT F G := by
    unfold cmR
    rw [if_pos ⟨IF, IG⟩, if_pos (cmF_all fun i hi => ?_)]
    have := (SF.out i hi).2.1
    have := SG.out.apL G4.out F[i] (SF.out i hi).1
    have := red_length (apL G F[i])
    omega
  have eC : cmC F G = 0 := by
    unfold cmC
    rw [if_pos ⟨IF, IG⟩, if_pos (cmF_all fun i hi => ?_)]
    have := (SF.out i hi).2.1
    have := SG.out.apL G4.out F[i] (SF.out i hi).1
    have := red_length (apL G F[i])
    omega
  have C1 : Hid (∀ w, SRow w.heap.size w aF F → Calls Try.prog 32 #[.slice aF F.length cF, .string (txt u)] w (TextPost (red (apL F u)) 0 w)) := Lib.hid fun w h => apply_ok FF IF WU rfl (by omega) w h
  have C2 : Hid (∀ w, SRow w.heap.size w aF F → Calls Try.prog 32 #[.slice aF F.length cF, .string (txt v)] w (TextPost (red (apL F v)) 0 w)) := Lib.hid fun w h => apply_ok FF IF WV rfl (by omega) w h
  have C3 : Hid (∀ w, SRow w.heap.size w aF F → Calls Try.prog 32 #[.slice aF F.length cF, .string (txt u ++ txt v)] w (TextPost (red (apL F (u ++ v))) 0 w)) := Lib.hid fun w h => by
    rw [txt_app]
    exact apply_ok FF IF WUV rfl (by omega) w h
  have C4 := Lib.hid (fun w => join_ok' WA WB eJ (by omega) w)
  have C5 : Hid (∀ w, SRow w.heap.size w aF F → SRow w.heap.size w aG G → Calls Try.prog 34 #[.slice aF F.length cF, .slice aG G.length cG] w (ImPost (cmT F G) 0 w)) := Lib.hid fun w h h1 => by
    have := icompose_any aF aG cF cG F G FF FG w h h1
    rwa [eR, eC] at this
  have C6 : Hid (∀ w, SRow w.heap.size w aF F → Calls Try.prog 29 #[.slice aF F.length cF] w fun e w' => e = .returned (.bool true) ∧ Below w.heap.size w w') := Lib.hid fun w h => by
    have := ivalidim_any aF cF F FF w h
    rwa [IF] at this
  have C7 : Hid (∀ a c w, SRow w.heap.size w a (cmT F G) → Calls Try.prog 29 #[.slice a (cmT F G).length c] w fun e w' => e = .returned (.bool true) ∧ Below w.heap.size w w') := Lib.hid fun a c w h => by
    have := ivalidim_any a c (cmT F G) FM w h
    rwa [IM] at this
  have C8 : Hid (∀ a c w, SRow w.heap.size w a (cmT F G) → Calls Try.prog 32 #[.slice a (cmT F G).length c, .string (txt u)] w (TextPost (red (apL G (red (apL F u)))) 0 w)) := Lib.hid fun a c w h => apply_ok FM IM WU eX (by omega) w h
  have C9 : Hid (∀ w, SRow w.heap.size w aG G → Calls Try.prog 32 #[.slice aG G.length cG, .string (txt (red (apL F u)))] w (TextPost (red (apL G (red (apL F u)))) 0 w)) := Lib.hid fun w h => apply_ok FG IG WA rfl (by omega) w h
  have hsu := txt_size u
  have hsv := txt_size v
  have hul : (u.length : Int) ≤ 4 := by have := U4.out; omega
  have hvl : (v.length : Int) ≤ 4 := by have := V4.out; omega
  have hcat : ¬ (9223372036854775807 < (txt u).size + (txt v).size) := by rw [hsu, hsv]; have := U4.out; have := V4.out; omega
  clear IF IG SM M4 IM FF FG FM hUV WU WV WUV lA lB lC LA LB WA WB eJ eX lX eR eC SF SG F4 G4 U V U4 V4 hsu hsv hul hvl
  generalize red (apL G (red (apL F u))) = y at *
  generalize red (apL F (u ++ v)) = cc at *
  generalize red (apL F v) = bb at *
  generalize red (apL F u) = aa at *
  generalize cmT F G = M at *
  go_wp2_with fail
  refine (C1.out _ RF5.out).mono ?_
  rintro e w6 ⟨rfl, b⟩
  have B6 : Hid (Below w.heap.size w w6) := Lib.hid (B5.out.trans (b.mono B5.out.size))
  have RF6 := Lib.hid (RF5.out.later b)
  have RG6 := Lib.hid (RG5.out.later b)
  clear b B5 RF5 RG5 C1
  go_wp2_with fail
  refine (C2.out _ RF6.out).mono ?_
  rintro e w7 ⟨rfl, b⟩
  have B7 : Hid (Below w.heap.size w w7) := Lib.hid (B6.out.trans (b.mono B6.out.size))
  have RF7 := Lib.hid (RF6.out.later b)
  have RG7 := Lib.hid (RG6.out.later b)
  clear b B6 RF6 RG6 C2
  go_wp2_with fail
  refine (C3.out _ RF7.out).mono ?_
  rintro e w8 ⟨rfl, b⟩
  have B8 : Hid (Below w.heap.size w w8) := Lib.hid (B7.out.trans (b.mono B7.out.size))
  have RF8 := Lib.hid (RF7.out.later b)
  have RG8 := Lib.hid (RG7.out.later b)
  clear b B7 RF7 RG7 C3 hcat
  go_wp2_with fail
  refine (C4.out _).mono ?_
  rintro e w9 ⟨rfl, b⟩
  have B9 : Hid (Below w.heap.size w w9) := Lib.hid (B8.out.trans (b.mono B8.out.size))
  have RF9 := Lib.hid (RF8.out.later b)
  have RG9 := Lib.hid (RG8.out.later b)
  clear b B8 RF8 RG8 C4
  go_wp2_with fail
  refine (C5.out _ RF9.out RG9.out).mono ?_
  rintro e wa ⟨vM, rfl, tM, b⟩
  obtain ⟨aM, cM, rfl, rM⟩ := tM.form
  have Ba : Hid (Below w.heap.size w wa) := Lib.hid (B9.out.trans (b.mono B9.out.size))
  have RFa := Lib.hid (RF9.out.later b)
  have RGa := Lib.hid (RG9.out.later b)
  have RMa := Lib.hid rM
  clear b B9 RF9 RG9 C5 rM tM
  go_wp2_with fail
  refine (C6.out _ RFa.out).mono ?_
  rintro e wb ⟨rfl, b⟩
  have Bb : Hid (Below w.heap.size w wb) := Lib.hid (Ba.out.trans (b.mono Ba.out.size))
  have RGb := Lib.hid (RGa.out.later b)
  have RMb := Lib.hid (RMa.out.later b)
  clear b Ba RFa RGa RMa C6
  go_wp2_with fail
  refine (C7.out _ _ _ RMb.out).mono ?_
  rintro e wc ⟨rfl, b⟩
  have Bc : Hid (Below w.heap.size w wc) := Lib.hid (Bb.out.trans (b.mono Bb.out.size))
  have RGc := Lib.hid (RGb.out.later b)
  have RMc := Lib.hid (RMb.out.later b)
  clear b Bb RGb RMb C7
  go_wp2_with fail
  refine (C8.out _ _ _ RMc.out).mono ?_
  rintro e wd ⟨rfl, b⟩
  have Bd : Hid (Below w.heap.size w wd) := Lib.hid (Bc.out.trans (b.mono Bc.out.size))
  have RGd := Lib.hid (RGc.out.later b)
  clear b Bc RGc RMc C8
  go_wp2_with fail
  refine (C9.out _ RGd.out).mono ?_
  rintro e we ⟨rfl, b⟩
  have Be : Hid (Below w.heap.size w we) := Lib.hid (Bd.out.trans (b.mono Bd.out.size))
  clear b Bd RGd C9
  go_wp2
  go_ret
  exact ⟨rfl, Be.out⟩
theorem fnImages_walk (a : Option Addr) (len cap : Nat) (a2 : Option Addr) (len2 cap2 : Nat) (w : World) (h : BRow w.heap.size w a len) (h2 : BRow w.heap.size w a2 len2) :
    Calls Try.prog 13 #[.slice a len cap, .slice a2 len2 cap2] w fun e w' => e = .returned (.bool true) ∧ Below w.heap.size w w' := by
  by_cases h3 : len ≤ 3000 ∧ len2 ≤ 3000
  · exact fimages_core a len cap a2 len2 cap2 w h h2 h3.1 h3.2
  · have LONG : Hid (∀ w, Calls Try.prog 37 #[.slice a len cap, .slice a2 len2 cap2] w fun e w' => e = .returned (.bool true) ∧ w = w') := Lib.hid fun w => by
      have := a2long_any a len cap a2 len2 cap2 w
      rwa [show (decide (3000 < len) || decide (3000 < len2)) = true by simp; omega] at this
    clear h h2 h3
    go_enter Try.func13, Try.ntmps13
    go_wp2_with fail
    refine (LONG.out _).mono ?_
    rintro e w' ⟨rfl, rfl⟩
    go_wp2
    go_ret
    exact ⟨rfl, Below.refl _ _⟩
end Go.Proofs.Ytdcphheeapmjcaa
