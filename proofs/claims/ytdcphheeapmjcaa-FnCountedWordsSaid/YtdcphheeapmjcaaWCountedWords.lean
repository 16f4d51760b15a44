/-
  FnCountedWords, walked.
-/
import Derived.Test.YtdcphheeapmjcaaFcm
import Derived.Test.YtdcphheeapmjcaaFcc
import Derived.Test.YtdcphheeapmjcaaFd
namespace Go.Proofs.Ytdcphheeapmjcaa
open Go.ChangeShapes Go.WideShapes Go.ChangeAt Go.RowKit Go.Deep
open Wd
theorem wordB_mk2 {l : List UInt8} (h : ∀ c ∈ l, isL c = true) (hm : l.length ≤ 40) : wordB l = true := by
  unfold wordB lets
  rw [Bool.and_eq_true, List.all_eq_true]
  exact ⟨h, by simpa using hm⟩
theorem code_ok {u : List UInt8} (h : wordB u = true) (w : World) : Calls Try.prog 21 #[.string (txt u)] w fun e w' => e = .returned (.tuple #[.agg (A16 (codeF u)), .int .i64 0]) ∧ Below w.heap.size w w' := by
  have := icode_any u (by have := wordB_len h; omega) w
  unfold CwPost at this
  rw [h] at this
  exact this
theorem woc_ok {u : List UInt8} (h : wordB u = true) (w : World) : Calls Try.prog 25 #[.agg (A16 (codeF u))] w (TextPost u 0 w) := by
  have := iwoc_any (codeF u) (fun i _ => codeF_ok h i) w
  unfold WocPost at this
  rw [(wocOk_code h).1, (wocOk_code h).2] at this
  exact this
set_option maxHeartbeats 8000000 in
set_option maxRecDepth 20000 in
theorem counted_core (a : Option Addr) (len cap : Nat) (a2 : Option Addr) (len2 cap2 : Nat) (w : World) (h : BRow w.heap.size w a len) (h2 : BRow w.heap.size w a2 len2) (hl : len ≤ 3000) (hl2 : len2 ≤ 3000) :
    Calls Try.prog 12 #[.slice a len cap, .slice a2 len2 cap2] w fun e w' => e = .returned (.bool true) ∧ Below w.heap.size w w' := by
  have H := Lib.hid h
  have H2 := Lib.hid h2
  have HL := Lib.hid hl
  have HL2 := Lib.hid hl2
  have LONG : Hid (∀ w, Calls Try.prog 37 #[.slice a len cap, .slice a2 len2 cap2] w fun e w' => e = .returned (.bool false) ∧ w = w') := Lib.hid fun w => by
    have := a2long_any a len cap a2 len2 cap2 w
    rwa [show (decide (3000 < len) || decide (3000 < len2)) = false by simp; omega] at this
  have C0 := Lib.hid (a2at_any a len cap 0 4 (by omega) (by omega) (by omega) w h)
  have C1 := Lib.hid (a2at_any a len cap 1 9 (by omega) (by omega) (by omega) w h)
  have D0 := Lib.hid (a2at_any a2 len2 cap2 0 256 (by omega) (by omega) (by omega) w h2)
  have D1 := Lib.hid (a2at_any a2 len2 cap2 1 256 (by omega) (by omega) (by omega) w h2)
  have D2 := Lib.hid (a2at_any a2 len2 cap2 2 256 (by omega) (by omega) (by omega) w h2)
  clear h h2 hl hl2
  go_enter Try.func12, Try.ntmps12
  go_wp2_with fail
  refine (LONG.out _).mono ?_
  rintro e w' ⟨rfl, rfl⟩
  clear LONG
  go_wp2_with fail
  refine C0.out.mono ?_
  rintro e w'' ⟨⟨y0, y0a, y0b, rfl⟩, rfl⟩
  go_wp2_with fail
  refine C1.out.mono ?_
  rintro e w'' ⟨⟨nI, na, nb, rfl⟩, rfl⟩
  obtain ⟨n, rfl⟩ : ∃ n : Nat, nI = n := ⟨nI.toNat, by omega⟩
  obtain ⟨g, hg⟩ : ∃ g : Int, 1 + y0 = g := ⟨_, rfl⟩
  have g1 : 1 ≤ g := by omega
  have g4 : g ≤ 4 := by omega
  have n8 : n ≤ 8 := by omega
  have n8' : (n : Int) ≤ 8 := by omega
  have CNT : Hid (∀ w, Calls Try.prog 46 #[.int .i64 g, .int .i64 (n : Int)] w fun e w' => e = .returned (.tuple #[.int .i64 (ways g false n), .int .i64 0]) ∧ w = w') := Lib.hid fun w => by
    have := icount_any g (n : Int) w
    unfold crPost at this
    rwa [if_pos ⟨⟨g1, g4⟩, by omega, by omega⟩, if_pos ⟨⟨g1, g4⟩, by omega, by omega⟩, Int.toNat_natCast] at this
  obtain ⟨cn1, cn2⟩ := ways_le g1 g4 false (k := n) (by omega)
  obtain ⟨cnt, hcnt⟩ : ∃ c, ways g false n = c := ⟨_, rfl⟩
  have CW := Lib.hid hcnt
  rw [hcnt] at CNT cn1 cn2
  have t1 : decide (cnt < 1) = false := by simp; omega
  clear C0 C1 na nb hcnt
  have y0c : y0 ≤ 3 := by omega
  clear y0b
  go_wp2_with fail
  clear hg y0a y0c
  refine (CNT.out _).mono ?_
  rintro e w'' ⟨rfl, rfl⟩
  go_wp2_with fail
  refine D0.out.mono ?_
  rintro e w'' ⟨⟨x0, x0a, x0b, rfl⟩, rfl⟩
  go_wp2_with fail
  refine D1.out.mono ?_
  rintro e w'' ⟨⟨x1, x1a, x1b, rfl⟩, rfl⟩
  go_wp2_with fail
  refine D2.out.mono ?_
  rintro e w'' ⟨⟨x2, x2a, x2b, rfl⟩, rfl⟩
  clear D0 D1 D2
  obtain ⟨k, hk⟩ : ∃ k : Int, (x0 * 65536 + x1 * 256 + x2) % cnt = k := ⟨_, rfl⟩
  have k0 : 0 ≤ k := by rw [← hk]; exact Int.emod_nonneg _ (by omega)
  have k1 : k < cnt := by rw [← hk]; exact Int.emod_lt_of_pos _ (by omega)
  have K0 := Lib.hid k0
  have K1 : Hid (k < ways g false n) := Lib.hid (by rw [CW.out]; exact k1)
  have G1 := Lib.hid g1
  have G4 := Lib.hid g4
  have N8 := Lib.hid n8
  have OKF := Lib.hid (atF_ok (k := k) g1 g4 n)
  obtain ⟨wa1, wa2, wa3⟩ := word_at g1 g4 (n := n) (by omega) k0 K1.out
  have TL := Lib.hid (ofL_letters (atF g n k) n)
  have TN := ofL_length (atF g n k) n
  have TW := Lib.hid (wordB_mk2 TL.out (by rw [TN]; omega))
  have TR := Lib.hid (ofL_red OKF.out)
  have E1 : Hid (∀ w, Calls Try.prog 15 #[.int .i64 g, .int .i64 (n : Int), .int .i64 k] w (TextPost (ofL (atF g n k) n) 0 w)) := Lib.hid fun w => by
    have := ired_any g n k w
    unfold RaPost at this
    rwa [if_pos ⟨⟨g1, g4⟩, ⟨by omega, by omega⟩, k0, by rw [Int.toNat_natCast]; exact K1.out⟩, if_pos ⟨⟨g1, g4⟩, ⟨by omega, by omega⟩, k0, by rw [Int.toNat_natCast]; exact K1.out⟩, Int.toNat_natCast] at this
  have E2 : Hid (∀ w, Calls Try.prog 47 #[.int .i64 g, .string (txt (ofL (atF g n k) n))] w fun e w' => e = .returned (.tuple #[.int .i64 k, .int .i64 0]) ∧ Below w.heap.size w w') := Lib.hid fun w => by
    have := irank_any g (ofL (atF g n k) n) (by rw [TN]; omega) w
    rwa [wa2, wa3] at this
  have E3 : Hid (∀ w, Calls Try.prog 42 #[.string (txt (ofL (atF g n k) n))] w fun e w' => e = .returned (.tuple #[.bool true, .int .i64 0]) ∧ Below w.heap.size w w') := Lib.hid fun w => by
    have := iisred_any (ofL (atF g n k) n) (by rw [TN]; omega) w
    simpa [TW.out, TR.out] using this
  have E4 : Hid (∀ w, Calls Try.prog 48 #[.int .i64 g, .string (txt (ofL (atF g n k) n))] w fun e w' => ∃ n' f', NextCh g n (atF g n k) n' f' ∧ TextPost (ofL f' n') 0 w e w') := Lib.hid fun w => by
    have okc : OkCh (chAt (ofL (atF g n k) n)) (ofL (atF g n k) n).length := okch_red2 TL.out TR.out
    refine (inext_any g (ofL (atF g n k) n) (by rw [TN]; omega) (fun _ => okc) w).mono ?_
    rintro e w' ⟨-, hp⟩
    obtain ⟨n', f', h1, h2, h3⟩ := hp wa1
    have hn := (h1.ok g4 okc).2
    rw [TN] at h1 hn
    rw [if_pos (by omega), if_pos (by omega)] at h3
    obtain ⟨f2, h4, h5⟩ := NextCh.congr (fun i hi => chAt_ofL OKF.out i hi) h1
    rw [ofL_congr' h5] at h3
    exact ⟨n', f2, h4, h3⟩
  have E5 : Hid (∀ w, Calls Try.prog 15 #[.int .i64 g, .int .i64 (n : Int), .int .i64 cnt] w (TextPost [] 2 w)) := Lib.hid fun w => by
    have := ired_any g n cnt w
    unfold RaPost at this
    have hno : ¬ raOk g n cnt := fun h => by have := h.2.2.2; rw [Int.toNat_natCast, CW.out] at this; omega
    rwa [if_neg hno, if_neg hno] at this
  have E6 := Lib.hid (fun w => code_ok TW.out w)
  have E7 := Lib.hid (fun w => woc_ok TW.out w)
  have SR := Lib.hid (fun (n : Nat) (k : Int) w => sred_any g n k w)
  have hsz := txt_size (ofL (atF g n k) n)
  rw [TN] at hsz
  have k9 : k < 68719476736 := by omega
  clear wa1 wa2 wa3 TR n8 g1 g4 TN k1
  obtain ⟨T, hT⟩ : ∃ T, ofL (atF g n k) n = T := ⟨_, rfl⟩
  have HT := Lib.hid hT
  rw [hT] at TL TW E1 E2 E3 E4 E6 E7 hsz
  clear hT
  have x0c : x0 ≤ 255 := by omega
  have x1c : x1 ≤ 255 := by omega
  have x2c : x2 ≤ 255 := by omega
  clear x0b x1b x2b
  go_wp2_with fail
  rw [hk]
  refine (E1.out _).mono ?_
  rintro e w' ⟨rfl, b⟩
  have B1 : Hid (Below w.heap.size w w') := Lib.hid b
  clear b E1 hk x0a x1a x2a x0c x1c x2c
  go_wp2_with fail
  refine (E2.out _).mono ?_
  rintro e w' ⟨rfl, b⟩
  have B2 : Hid (Below w.heap.size w w') := Lib.hid (B1.out.trans (b.mono B1.out.size))
  clear b E2
  go_wp2_with fail
  refine (E3.out _).mono ?_
  rintro e w' ⟨rfl, b⟩
  have B3 : Hid (Below w.heap.size w w') := Lib.hid (B2.out.trans (b.mono B2.out.size))
  clear b E3
  go_wp2_with fail
  refine (E4.out _).mono ?_
  rintro e w' ⟨n', f', hnx, rfl, b⟩
  have B4 : Hid (Below w.heap.size w w') := Lib.hid (B3.out.trans (b.mono B3.out.size))
  clear b E4
  have NX := Lib.hid hnx
  have hnk := (hnx.ok G4.out OKF.out)
  have RL := Lib.hid (ofL_letters f' n')
  have RN := ofL_length f' n'
  have RW := Lib.hid (wordB_mk2 RL.out (by rw [RN]; have := hnk.2; have := N8.out; omega))
  have CMP : Hid (∀ w, Calls Try.prog 49 #[.string (txt T), .string (txt (ofL f' n'))] w fun e w' => e = .returned (.tuple #[.int .i64 (-1), .int .i64 0]) ∧ Below w.heap.size w w') := Lib.hid fun w => by
    have := icompare_any T (ofL f' n') (by have := wordB_len TW.out; omega) (by have := wordB_len RW.out; omega) w
    have hc := next_cmp G4.out OKF.out NX.out
    rw [HT.out] at hc
    simpa [TW.out, RW.out, hc] using this
  have ND : Hid ((k + 1 < ways g false n ∧ n' = n ∧ ∀ i, i < n → f' i = atF g n (k + 1) i) ∨ (k + 1 = ways g false n ∧ n' = n + 1 ∧ ∀ i, i < n + 1 → f' i = atF g (n + 1) 0 i)) := Lib.hid (next_atF G1.out G4.out (atF_inR G1.out G4.out n) (hF_atF G1.out G4.out K0.out K1.out) NX.out)
  have SP : Hid ((∀ w, Calls Try.prog 14 #[.int .i64 g, .int .i64 (n : Int), .int .i64 (k + 1)] w (TextPost (ofL f' n') 0 w)) ∧ k + 1 ≠ cnt ∨ (∀ w, Calls Try.prog 14 #[.int .i64 g, .int .i64 (n : Int), .int .i64 (k + 1)] w (TextPost [] 2 w)) ∧ (∀ w, Calls Try.prog 14 #[.int .i64 g, .int .i64 ((n : Int) + 1), .int .i64 0] w (TextPost (ofL f' n') 0 w)) ∧ k + 1 = cnt) := Lib.hid (by
    have g1 := G1.out
    have g4 := G4.out
    have k0 := K0.out
    have n8 := N8.out
    rcases ND.out with ⟨h1, rfl, h3⟩ | ⟨h1, rfl, h3⟩
    · left
      refine ⟨fun w => ?_, by rw [CW.out] at h1; omega⟩
      have := SR.out n' (k + 1) w
      unfold RaPost at this
      have ok : raOk g n' (k + 1) := ⟨⟨g1, g4⟩, ⟨by omega, by omega⟩, by omega, by rw [Int.toNat_natCast]; exact h1⟩
      rw [if_pos ok, if_pos ok, Int.toNat_natCast] at this
      rw [ofL_congr' h3]
      exact this
    · right
      refine ⟨fun w => ?_, fun w => ?_, by rw [CW.out] at h1; exact h1⟩
      · have := SR.out n (k + 1) w
        unfold RaPost at this
        have no : ¬ raOk g n (k + 1) := fun h => by have := h.2.2.2; rw [Int.toNat_natCast] at this; omega
        rwa [if_neg no, if_neg no] at this
      · have := SR.out (n + 1) 0 w
        unfold RaPost at this
        have ok : raOk g ((n + 1 : Nat) : Int) 0 := ⟨⟨g1, g4⟩, ⟨by omega, by omega⟩, by omega, by rw [Int.toNat_natCast]; have := (ways_pos g1 g4 false (n + 1)).1; omega⟩
        rw [if_pos ok, if_pos ok, Int.toNat_natCast] at this
        rw [ofL_congr' h3]
        push_cast at this
        exact this)
  clear hnx hnk ND NX RN SR HT K1 CW
  generalize ofL f' n' = R at *
  go_wp2_with fail
  refine (E5.out _).mono ?_
  rintro e w' ⟨rfl, b⟩
  have B5 : Hid (Below w.heap.size w w') := Lib.hid (B4.out.trans (b.mono B4.out.size))
  clear b E5
  go_wp2_with fail
  refine (CMP.out _).mono ?_
  rintro e w' ⟨rfl, b⟩
  have B6 : Hid (Below w.heap.size w w') := Lib.hid (B5.out.trans (b.mono B5.out.size))
  clear b CMP
  have H26 := Lib.hid (brow_later' H2.out B6.out)
  rcases SP.out with ⟨s1, hne⟩ | ⟨s1, s2, heq⟩
  · have t9 : ((k + 1 : Int) == cnt) = false := by rw [beq_eq_false_iff_ne]; exact hne
    have S1 := Lib.hid s1
    clear s1 hne SP
    go_wp2_with fail
    refine (S1.out _).mono ?_
    rintro e w' ⟨rfl, b⟩
    have BX : Hid (Below w.heap.size w w') := Lib.hid (B6.out.trans (b.mono B6.out.size))
    clear b S1 B6 H26
    have Q1 : Hid (∀ w, Calls Try.prog 21 #[.string (txt T)] w fun e w' => e = .returned (.tuple #[.agg (A16 (codeF T)), .int .i64 0]) ∧ Below w.heap.size w w') := E6
    go_wp2_with fail
    refine (Q1.out _).mono ?_
    rintro e v1 ⟨rfl, b⟩
    have V1 : Hid (Below w.heap.size w (v1.alloc (.cells (A16 (codeF T)) 31))) := Lib.hid (by have := BX.out.trans (b.mono BX.out.size); exact this.alloc this.size _)
    have R1 : Hid ((v1.alloc (.cells (A16 (codeF T)) 31)).heap[v1.heap.size]? = some (.cells (A16 (codeF T)) 31 (0, 0))) := Lib.hid (World.alloc_heap_new v1 _)
    have L1 : Hid (v1.heap.size < (v1.alloc (.cells (A16 (codeF T)) 31)).heap.size) := Lib.hid (by simp)
    clear b
    go_wp2_with (refine wpList_load_row rfl 31 _ rfl v1.heap.size rfl 31 _ _ _ R1.out Try.underlying31 rfl (code_info _ rfl) ?_)
    generalize v1.alloc (.cells (A16 (codeF T)) 31) = z1 at V1 R1 L1 ⊢
    generalize v1.heap.size = b1 at R1 L1 ⊢
    refine (E7.out _).mono ?_
    rintro e v2 ⟨rfl, b⟩
    have V2 : Hid (Below w.heap.size w v2) := Lib.hid (V1.out.trans (b.mono V1.out.size))
    have R2 : Hid (v2.heap[b1]? = some (.cells (A16 (codeF T)) 31 (0, 0))) := Lib.hid ((b.block _ L1.out).trans R1.out)
    have L2 : Hid (b1 < v2.heap.size) := Lib.hid (Nat.lt_of_lt_of_le L1.out b.size)
    clear b V1 R1 L1
    go_wp2_with fail
    refine (a2word_any len2 cap2 a2 4 (by omega) (by omega) 9 (by omega) (by omega) (by have := HL2.out; omega) _ (brow_later' H2.out V2.out)).mono ?_
    rintro e v3 ⟨⟨u, hu, hu9, rfl⟩, b⟩
    have UW := Lib.hid (wordB_mk2 hu (by omega))
    have V3 : Hid (Below w.heap.size w v3) := Lib.hid (V2.out.trans (b.mono V2.out.size))
    have R3 : Hid (v3.heap[b1]? = some (.cells (A16 (codeF T)) 31 (0, 0))) := Lib.hid ((b.block _ L2.out).trans R2.out)
    have L3 : Hid (b1 < v3.heap.size) := Lib.hid (Nat.lt_of_lt_of_le L2.out b.size)
    clear b V2 R2 L2 hu hu9
    go_wp2_with fail
    refine (code_ok UW.out _).mono ?_
    rintro e v4 ⟨rfl, b⟩
    have V4 : Hid (Below w.heap.size w (v4.alloc (.cells (A16 (codeF u)) 31))) := Lib.hid (by have := V3.out.trans (b.mono V3.out.size); exact this.alloc this.size _)
    have R4 : Hid ((v4.alloc (.cells (A16 (codeF u)) 31)).heap[b1]? = some (.cells (A16 (codeF T)) 31 (0, 0))) := Lib.hid ((Below.heap_alloc _ _ _ (Nat.lt_of_lt_of_le L3.out b.size)).trans ((b.block _ L3.out).trans R3.out))
    have R5 : Hid ((v4.alloc (.cells (A16 (codeF u)) 31)).heap[v4.heap.size]? = some (.cells (A16 (codeF u)) 31 (0, 0))) := Lib.hid (World.alloc_heap_new v4 _)
    have hS : ∀ w, (Op.equalIn 10000 31 (.agg (A16 (codeF u))) (.agg (A16 (codeF T)))).run Try.prog w = .ok (decide (u = T)) w := fun w => by
      rw [← codeF_inj UW.out TW.out]
      exact eqArrI (P := Try.prog) (t := 31) (q := .u8) (codeF u) (codeF T) Try.underlying31 Try.underlying5 (by kernel_rfl) w
    have TB := txt_beq u T
    clear b V3 R3 L3 Q1 E7
    generalize hdd : decide (u = T) = dd at hS TB
    clear hdd
    generalize codeF u = fu at R4 R5 hS V4 ⊢
    generalize codeF T = fT at R4 R5 hS V4 ⊢
    cases dd
    all_goals
      go_wp2_with (first | (refine wpList_load_row rfl 31 _ rfl v4.heap.size rfl 31 _ _ _ R5.out Try.underlying31 rfl (code_info _ rfl) ?_) | (refine wpList_load_row rfl 31 _ rfl b1 rfl 31 _ _ _ R4.out Try.underlying31 rfl (code_info _ rfl) ?_))
      obtain ⟨z4, hz4⟩ : ∃ z4, v4.alloc (.cells (A16 fu) 31) = z4 := ⟨_, rfl⟩
      rw [hz4] at V4 ⊢
      clear R4 R5 hz4 hS TB
      go_ret
      exact ⟨rfl, V4.out⟩
  · have T9 : Hid (((k + 1 : Int) == cnt) = true) := Lib.hid (by rw [beq_iff_eq]; exact heq)
    have S1 := Lib.hid s1
    have S2 := Lib.hid s2
    clear s1 s2 SP heq
    go_wp2_with fail
    refine (S1.out _).mono ?_
    rintro e w' ⟨rfl, b⟩
    have BY : Hid (Below w.heap.size w w') := Lib.hid (B6.out.trans (b.mono B6.out.size))
    clear b S1 B6 H26
    have t9 := T9.out
    go_wp2_with fail
    refine (S2.out _).mono ?_
    rintro e w' ⟨rfl, b⟩
    have BX : Hid (Below w.heap.size w w') := Lib.hid (BY.out.trans (b.mono BY.out.size))
    clear b S2 BY
    have Q1 : Hid (∀ w, Calls Try.prog 21 #[.string (txt T)] w fun e w' => e = .returned (.tuple #[.agg (A16 (codeF T)), .int .i64 0]) ∧ Below w.heap.size w w') := E6
    go_wp2_with fail
    refine (Q1.out _).mono ?_
    rintro e v1 ⟨rfl, b⟩
    have V1 : Hid (Below w.heap.size w (v1.alloc (.cells (A16 (codeF T)) 31))) := Lib.hid (by have := BX.out.trans (b.mono BX.out.size); exact this.alloc this.size _)
    have R1 : Hid ((v1.alloc (.cells (A16 (codeF T)) 31)).heap[v1.heap.size]? = some (.cells (A16 (codeF T)) 31 (0, 0))) := Lib.hid (World.alloc_heap_new v1 _)
    have L1 : Hid (v1.heap.size < (v1.alloc (.cells (A16 (codeF T)) 31)).heap.size) := Lib.hid (by simp)
    clear b
    go_wp2_with (refine wpList_load_row rfl 31 _ rfl v1.heap.size rfl 31 _ _ _ R1.out Try.underlying31 rfl (code_info _ rfl) ?_)
    generalize v1.alloc (.cells (A16 (codeF T)) 31) = z1 at V1 R1 L1 ⊢
    generalize v1.heap.size = b1 at R1 L1 ⊢
    refine (E7.out _).mono ?_
    rintro e v2 ⟨rfl, b⟩
    have V2 : Hid (Below w.heap.size w v2) := Lib.hid (V1.out.trans (b.mono V1.out.size))
    have R2 : Hid (v2.heap[b1]? = some (.cells (A16 (codeF T)) 31 (0, 0))) := Lib.hid ((b.block _ L1.out).trans R1.out)
    have L2 : Hid (b1 < v2.heap.size) := Lib.hid (Nat.lt_of_lt_of_le L1.out b.size)
    clear b V1 R1 L1
    go_wp2_with fail
    refine (a2word_any len2 cap2 a2 4 (by omega) (by omega) 9 (by omega) (by omega) (by have := HL2.out; omega) _ (brow_later' H2.out V2.out)).mono ?_
    rintro e v3 ⟨⟨u, hu, hu9, rfl⟩, b⟩
    have UW := Lib.hid (wordB_mk2 hu (by omega))
    have V3 : Hid (Below w.heap.size w v3) := Lib.hid (V2.out.trans (b.mono V2.out.size))
    have R3 : Hid (v3.heap[b1]? = some (.cells (A16 (codeF T)) 31 (0, 0))) := Lib.hid ((b.block _ L2.out).trans R2.out)
    have L3 : Hid (b1 < v3.heap.size) := Lib.hid (Nat.lt_of_lt_of_le L2.out b.size)
    clear b V2 R2 L2 hu hu9
    go_wp2_with fail
    refine (code_ok UW.out _).mono ?_
    rintro e v4 ⟨rfl, b⟩
    have V4 : Hid (Below w.heap.size w (v4.alloc (.cells (A16 (codeF u)) 31))) := Lib.hid (by have := V3.out.trans (b.mono V3.out.size); exact this.alloc this.size _)
    have R4 : Hid ((v4.alloc (.cells (A16 (codeF u)) 31)).heap[b1]? = some (.cells (A16 (codeF T)) 31 (0, 0))) := Lib.hid ((Below.heap_alloc _ _ _ (Nat.lt_of_lt_of_le L3.out b.size)).trans ((b.block _ L3.out).trans R3.out))
    have R5 : Hid ((v4.alloc (.cells (A16 (codeF u)) 31)).heap[v4.heap.size]? = some (.cells (A16 (codeF u)) 31 (0, 0))) := Lib.hid (World.alloc_heap_new v4 _)
    have hS : ∀ w, (Op.equalIn 10000 31 (.agg (A16 (codeF u))) (.agg (A16 (codeF T)))).run Try.prog w = .ok (decide (u = T)) w := fun w => by
      rw [← codeF_inj UW.out TW.out]
      exact eqArrI (P := Try.prog) (t := 31) (q := .u8) (codeF u) (codeF T) Try.underlying31 Try.underlying5 (by kernel_rfl) w
    have TB := txt_beq u T
    clear b V3 R3 L3 Q1 E7
    generalize hdd : decide (u = T) = dd at hS TB
    clear hdd
    generalize codeF u = fu at R4 R5 hS V4 ⊢
    generalize codeF T = fT at R4 R5 hS V4 ⊢
    cases dd
    all_goals
      go_wp2_with (first | (refine wpList_load_row rfl 31 _ rfl v4.heap.size rfl 31 _ _ _ R5.out Try.underlying31 rfl (code_info _ rfl) ?_) | (refine wpList_load_row rfl 31 _ rfl b1 rfl 31 _ _ _ R4.out Try.underlying31 rfl (code_info _ rfl) ?_))
      obtain ⟨z4, hz4⟩ : ∃ z4, v4.alloc (.cells (A16 fu) 31) = z4 := ⟨_, rfl⟩
      rw [hz4] at V4 ⊢
      clear R4 R5 hz4 hS TB
      go_ret
      exact ⟨rfl, V4.out⟩
set_option maxRecDepth 20000 in
theorem fnCountedWords_walk (a : Option Addr) (len cap : Nat) (a2 : Option Addr) (len2 cap2 : Nat) (w : World) (h : BRow w.heap.size w a len) (h2 : BRow w.heap.size w a2 len2) :
    Calls Try.prog 12 #[.slice a len cap, .slice a2 len2 cap2] w fun e w' => e = .returned (.bool true) ∧ Below w.heap.size w w' := by
  by_cases h3 : len ≤ 3000 ∧ len2 ≤ 3000
  · exact counted_core a len cap a2 len2 cap2 w h h2 h3.1 h3.2
  · have LONG : Hid (∀ w, Calls Try.prog 37 #[.slice a len cap, .slice a2 len2 cap2] w fun e w' => e = .returned (.bool true) ∧ w = w') := Lib.hid fun w => by
      have := a2long_any a len cap a2 len2 cap2 w
      rwa [show (decide (3000 < len) || decide (3000 < len2)) = true by simp; omega] at this
    clear h h2 h3
    go_enter Try.func12, Try.ntmps12
    go_wp2_with fail
    refine (LONG.out _).mono ?_
    rintro e w' ⟨rfl, rfl⟩
    go_wp2
    go_ret
    exact ⟨rfl, Below.refl _ _⟩
end Go.Proofs.Ytdcphheeapmjcaa
