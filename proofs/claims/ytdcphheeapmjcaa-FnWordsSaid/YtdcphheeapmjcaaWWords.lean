/-
  FnWords, walked.
-/
import Derived.Test.YtdcphheeapmjcaaFd
import Derived.Test.YtdcphheeapmjcaaFgr
import Derived.Test.YtdcphheeapmjcaaIpw
import Derived.Test.YtdcphheeapmjcaaIls
namespace Go.Proofs.Ytdcphheeapmjcaa
open Go.ChangeShapes Go.WideShapes Go.ChangeAt Go.RowKit Go.Deep
open Wd
theorem wordB_mk {l : List UInt8} (h : ∀ c ∈ l, isL c = true) (hm : l.length ≤ 40) : wordB l = true := by
  unfold wordB lets
  rw [Bool.and_eq_true, List.all_eq_true]
  exact ⟨h, by simpa using hm⟩
theorem inv_ok {u : List UInt8} (h : wordB u = true) (w : World) : Calls Try.prog 39 #[.string (txt u)] w (TextPost (inv u) 0 w) := by
  have := iinvword_any u (by have := wordB_len h; omega) w
  simpa [h] using this
theorem join_ok {u v : List UInt8} (hu : wordB u = true) (hv : wordB v = true) {r : List UInt8} (hr : red (u ++ v) = r) (hl : r.length ≤ 40) (w : World) : Calls Try.prog 40 #[.string (txt u), .string (txt v)] w (TextPost r 0 w) := by
  have := ijoin_any u v (by have := wordB_len hu; omega) (by have := wordB_len hv; omega) w
  rw [hr] at this
  simpa [hu, hv, hl] using this
theorem redw_ok {u : List UInt8} (h : wordB u = true) (w : World) : Calls Try.prog 41 #[.string (txt u)] w (TextPost (red u) 0 w) := by
  have := iredword_any u (by have := wordB_len h; omega) w
  simpa [h] using this
theorem isred_ok {u : List UInt8} (h : wordB u = true) (hr : red u = u) (w : World) : Calls Try.prog 42 #[.string (txt u)] w fun e w' => e = .returned (.tuple #[.bool true, .int .i64 0]) ∧ Below w.heap.size w w' := by
  have := iisred_any u (by have := wordB_len h; omega) w
  simpa [h, hr] using this
theorem pow_ok {u : List UInt8} (h : wordB u = true) {n : Int} (h1 : -40 ≤ n) (h2 : n ≤ 40) {r : List UInt8} (hr : powR (if n < 0 then inv u else u) n.natAbs = r) (hl : r.length ≤ 40) (w : World) : Calls Try.prog 44 #[.string (txt u), .int .i64 n] w (TextPost r 0 w) := by
  have := ipower_any u n (by have := wordB_len h; omega) w
  unfold powPost at this
  rw [hr] at this
  simpa [h, h1, h2, hl] using this
def SumPost (a b c d : Int) (w : World) (e : Ending) (w' : World) : Prop := e = .returned (.tuple #[.agg #[.int .i64 a, .int .i64 b, .int .i64 c, .int .i64 d], .int .i64 0]) ∧ Below w.heap.size w w'
theorem sums_ok {u : List UInt8} (h : wordB u = true) (w : World) : Calls Try.prog 45 #[.string (txt u)] w (SumPost (sumL u 0) (sumL u 1) (sumL u 2) (sumL u 3) w) := by
  have := ilsums_any u (by have := wordB_len h; omega) w
  unfold LsPost at this
  rw [h] at this
  exact this
/-- a row of four numbers in a block of its own -/
def Row4 (w : World) (b : Nat) (f : Nat → Int) : Prop := w.heap[b]? = some (.cells #[.int .i64 (f 0), .int .i64 (f 1), .int .i64 (f 2), .int .i64 (f 3)] 54 (0, 0))
theorem Row4.later {w w' : World} {b : Nat} {f : Nat → Int} (h : Row4 w b f) (hb : Below w.heap.size w w') : Row4 w' b f := by
  unfold Row4
  rw [hb.block b (Array.getElem?_eq_some_iff.1 h).1]; exact h
theorem Row4.cell {w : World} {b : Nat} {f : Nat → Int} (h : Row4 w b f) {k : Nat} (hk : k < 4) : w.cell? ⟨b, k, none⟩ = some (.int .i64 (f k)) := by
  have := Lib.cell_of_heap h k
  rw [this]
  have : k = 0 ∨ k = 1 ∨ k = 2 ∨ k = 3 := by omega
  rcases this with rfl | rfl | rfl | rfl <;> rfl
theorem Row4.new (w : World) (f : Nat → Int) : Row4 (w.alloc (.cells #[.int .i64 (f 0), .int .i64 (f 1), .int .i64 (f 2), .int .i64 (f 3)] 54)) w.heap.size f := World.alloc_heap_new w _
set_option maxHeartbeats 8000000 in
set_option maxRecDepth 20000 in
theorem fwords_core (a : Option Addr) (len cap : Nat) (a2 : Option Addr) (len2 cap2 : Nat) (w : World) (h : BRow w.heap.size w a len) (h2 : BRow w.heap.size w a2 len2) (hl : len ≤ 3000) (hl2 : len2 ≤ 3000) :
    Calls Try.prog 11 #[.slice a len cap, .slice a2 len2 cap2] w fun e w' => e = .returned (.bool true) ∧ Below w.heap.size w w' := by
  have H := Lib.hid h
  have H2 := Lib.hid h2
  have HL := Lib.hid hl
  have HL2 := Lib.hid hl2
  have LONG : Hid (∀ w, Calls Try.prog 37 #[.slice a len cap, .slice a2 len2 cap2] w fun e w' => e = .returned (.bool false) ∧ w = w') := Lib.hid fun w => by
    have := a2long_any a len cap a2 len2 cap2 w
    rwa [show (decide (3000 < len) || decide (3000 < len2)) = false by simp; omega] at this
  clear h h2 hl hl2
  go_enter Try.func11, Try.ntmps11
  go_wp2_with fail
  refine (LONG.out _).mono ?_
  rintro e w' ⟨rfl, rfl⟩
  clear LONG
  go_wp2_with fail
  refine (a2word_any len cap a 4 (by omega) (by omega) 8 (by omega) (by omega) (by have := HL.out; omega) _ H.out).mono ?_
  rintro e w1 ⟨⟨u, hu, hu8, rfl⟩, b⟩
  have B1 := Lib.hid b
  have H21 : Hid (BRow w1.heap.size w1 a2 len2) := Lib.hid (brow_later' H2.out b)
  have U := Lib.hid hu
  have U8 := Lib.hid hu8
  clear b hu hu8
  go_wp2_with fail
  refine (a2word_any len2 cap2 a2 4 (by omega) (by omega) 8 (by omega) (by omega) (by have := HL2.out; omega) _ H21.out).mono ?_
  rintro e w2 ⟨⟨v, hv, hv8, rfl⟩, b⟩
  have B2 : Hid (Below w.heap.size w w2) := Lib.hid (B1.out.trans (b.mono B1.out.size))
  have H22 : Hid (BRow w2.heap.size w2 a2 len2) := Lib.hid (brow_later' H21.out b)
  have V := Lib.hid hv
  have V8 := Lib.hid hv8
  clear b hv hv8 B1 H21
  have BA : Hid (BRow w2.heap.size (w2.alloc (.cells #[.int .u8 5] 5)) a2 len2) := Lib.hid (H22.out.below ((Below.refl _ w2).alloc (Nat.le_refl _) _))
  have BN : Hid ((w2.alloc (.cells #[.int .u8 5] 5)).heap[w2.heap.size]? = some (.cells #[.int .u8 (((5 : UInt8).toNat : Nat) : Int)] 5 (0, 0))) := Lib.hid (World.alloc_heap_new w2 _)
  have BS : Hid (w2.heap.size ≤ (w2.alloc (.cells #[.int .u8 5] 5)).heap.size) := Lib.hid (by simp)
  have B2A : Hid (Below w.heap.size w (w2.alloc (.cells #[.int .u8 5] 5))) := Lib.hid (B2.out.alloc B2.out.size _)
  have BM : Hid (w.heap.size ≤ w2.heap.size) := Lib.hid B2.out.size
  go_wp2_with (at_builtin; refine wpList_append_pre rfl _ _ rfl w2.heap.size 5 rfl BN.out a2 len2 cap2 rfl BA.out (by have := HL2.out; omega) BS.out ?_)
  intro q cap' w3 hq b
  have HQ := Lib.hid hq
  have B3 : Hid (Below w.heap.size w w3) := Lib.hid (B2A.out.trans (b.mono BM.out))
  clear hq b BA BN BS B2A BM B2 H22
  go_wp2_with fail
  refine (a2word_any (len2 + 1) cap' q 4 (by omega) (by omega) 8 (by omega) (by omega) (by have := HL2.out; omega) _ HQ.out).mono ?_
  rintro e w4 ⟨⟨x, hx, hx8, rfl⟩, b⟩
  have B4 : Hid (Below w.heap.size w w4) := Lib.hid (B3.out.trans (b.mono B3.out.size))
  have X := Lib.hid hx
  have X8 := Lib.hid hx8
  clear b hx hx8 B3 HQ
  have WU := Lib.hid (wordB_mk U.out (by have := U8.out; omega))
  have WV := Lib.hid (wordB_mk V.out (by have := V8.out; omega))
  have WX := Lib.hid (wordB_mk X.out (by have := X8.out; omega))
  have LUV : Hid ((red (u ++ v)).length ≤ 16) := Lib.hid (by have := red_length (u ++ v); have := U8.out; have := V8.out; simp at *; omega)
  have LVX : Hid ((red (v ++ x)).length ≤ 16) := Lib.hid (by have := red_length (v ++ x); have := X8.out; have := V8.out; simp at *; omega)
  have LR : Hid ((red u).length ≤ 8) := Lib.hid (by have := red_length u; have := U8.out; omega)
  have LTR : ∀ {a b : List UInt8}, (∀ c ∈ a, isL c = true) → (∀ c ∈ b, isL c = true) → ∀ c ∈ red (a ++ b), isL c = true := fun ha hb => red_letters fun c hc => (List.mem_append.1 hc).elim (ha c) (hb c)
  have WUV := Lib.hid (wordB_mk (LTR U.out V.out) (by have := LUV.out; omega))
  have WVX := Lib.hid (wordB_mk (LTR V.out X.out) (by have := LVX.out; omega))
  have LA : Hid ((red (u ++ v ++ x)).length ≤ 24) := Lib.hid (by have := red_length (u ++ v ++ x); have := X8.out; have := U8.out; have := V8.out; simp at *; omega)
  have K1 := Lib.hid (fun w => inv_ok WU.out w)
  have K2 := Lib.hid (fun w => join_ok WU.out (wordB_mk (inv_letters U.out) (by rw [inv_length]; have := U8.out; omega)) (red_inv U.out) (by simp) w)
  have K3 := Lib.hid (fun w => join_ok WU.out WV.out rfl (by have := LUV.out; omega) w)
  have K4 := Lib.hid (fun w => join_ok WV.out WX.out rfl (by have := LVX.out; omega) w)
  have K5 := Lib.hid (fun w => join_ok WUV.out WX.out (r := red (u ++ v ++ x)) (red_app _ _) (by have := LA.out; omega) w)
  have K6 := Lib.hid (fun w => join_ok WU.out WVX.out (r := red (u ++ v ++ x)) (by rw [red_left (fun c hc => (List.mem_append.1 hc).elim (V.out c) (X.out c)), List.append_assoc]) (by have := LA.out; omega) w)
  have K7 := Lib.hid (fun w => redw_ok WU.out w)
  have K8 := Lib.hid (fun w => isred_ok (wordB_mk (red_letters U.out) (by have := LR.out; omega)) (red_red u) w)
  have KP : Hid (∀ n m : Int, 0 ≤ n → n ≤ 2 → -1 ≤ m → m ≤ 1 → ∃ P Q T : List UInt8, (∀ w, Calls Try.prog 44 #[.string (txt u), .int .i64 n] w (TextPost P 0 w)) ∧ (∀ w, Calls Try.prog 44 #[.string (txt u), .int .i64 m] w (TextPost Q 0 w)) ∧ (∀ w, Calls Try.prog 40 #[.string (txt P), .string (txt Q)] w (TextPost T 0 w)) ∧ (∀ w, Calls Try.prog 44 #[.string (txt u), .int .i64 (n + m)] w (TextPost T 0 w))) := Lib.hid fun n m n0 n2 m0 m1 => by
    have IL := inv_letters U.out
    have PL : ∀ k : Int, ∀ c ∈ powR (if k < 0 then inv u else u) k.natAbs, isL c = true := fun k => powR_letters (by split; exact IL; exact U.out) _
    have PN : ∀ k : Int, k.natAbs ≤ 3 → (powR (if k < 0 then inv u else u) k.natAbs).length ≤ 24 := fun k hk => by
      have h1 := powR_length (if k < 0 then inv u else u) k.natAbs
      have h2 : (if k < 0 then inv u else u).length ≤ 8 := by
        have := U8.out
        split
        · rw [inv_length]; exact this
        · exact this
      have := Nat.mul_le_mul hk h2
      omega
    have e := pow_join U.out n0 m0 m1
    refine ⟨_, _, _, fun w => pow_ok WU.out (by omega) (by omega) rfl (by have := PN n (by omega); omega) w, fun w => pow_ok WU.out (by omega) (by omega) rfl (by have := PN m (by omega); omega) w, fun w => join_ok (wordB_mk (PL n) (by have := PN n (by omega); omega)) (wordB_mk (PL m) (by have := PN m (by omega); omega)) e (by have := PN (n + m) (by omega); omega) w, fun w => pow_ok WU.out (by omega) (by omega) rfl (by have := PN (n + m) (by omega); omega) w⟩
  have Q1 := Lib.hid (fun w => sums_ok WU.out w)
  have Q2 := Lib.hid (fun w => sums_ok WV.out w)
  have Q3 := Lib.hid (fun w => sums_ok WUV.out w)
  have SS : Hid (∀ j, sumL (red (u ++ v)) j = sumL u j + sumL v j) := Lib.hid fun j => by rw [sumL_red _ _ (fun c hc => (List.mem_append.1 hc).elim (U.out c) (V.out c)), sumL_app]
  have SB : Hid (∀ j, (-8 ≤ sumL u j ∧ sumL u j ≤ 8) ∧ -8 ≤ sumL v j ∧ sumL v j ≤ 8) := Lib.hid fun j => by
    have := sumL_le u j; have := sumL_le v j; have := U8.out; have := V8.out; omega
  obtain ⟨k, hk⟩ := red_even u
  have hr8 : ((red u).length : Int) ≤ 8 := by have := LR.out; omega
  have hrs := txt_size (red u)
  have hus := txt_size u
  have t1 : decide ((u.length : Int) < ((red u).length : Int)) = false := by simp; omega
  have hu8 : (u.length : Int) ≤ 8 := by have := U8.out; omega
  have t2 : (u.length : Int) - ((red u).length : Int) = 2 * (k : Int) := by omega
  have t3 : (txt []).toList = [] := by rw [ByteArray.toList_eq]; rfl
  clear WU WV WX LUV LVX LR LTR WUV WVX LA hk X X8 V V8
  generalize red (u ++ v) = uv at *
  generalize red (v ++ x) = vx at *
  generalize red (u ++ v ++ x) = A at *
  generalize inv u = iu at *
  generalize red u = r at *
  go_wp2_with fail
  refine (K1.out _).mono ?_
  rintro e w' ⟨rfl, b⟩
  have B5 : Hid (Below w.heap.size w w') := Lib.hid (B4.out.trans (b.mono B4.out.size))
  clear b K1 B4
  go_wp2_with fail
  refine (K2.out _).mono ?_
  rintro e w' ⟨rfl, b⟩
  have B6 : Hid (Below w.heap.size w w') := Lib.hid (B5.out.trans (b.mono B5.out.size))
  clear b K2 B5
  go_wp2_with fail
  refine (K3.out _).mono ?_
  rintro e w' ⟨rfl, b⟩
  have B7 : Hid (Below w.heap.size w w') := Lib.hid (B6.out.trans (b.mono B6.out.size))
  clear b K3 B6
  go_wp2_with fail
  refine (K4.out _).mono ?_
  rintro e w' ⟨rfl, b⟩
  have B8 : Hid (Below w.heap.size w w') := Lib.hid (B7.out.trans (b.mono B7.out.size))
  clear b K4 B7
  go_wp2_with fail
  refine (K5.out _).mono ?_
  rintro e w' ⟨rfl, b⟩
  have B9 : Hid (Below w.heap.size w w') := Lib.hid (B8.out.trans (b.mono B8.out.size))
  clear b K5 B8
  go_wp2_with fail
  refine (K6.out _).mono ?_
  rintro e w' ⟨rfl, b⟩
  have B10 : Hid (Below w.heap.size w w') := Lib.hid (B9.out.trans (b.mono B9.out.size))
  clear b K6 B9
  go_wp2_with fail
  refine (K7.out _).mono ?_
  rintro e w' ⟨rfl, b⟩
  have B11 : Hid (Below w.heap.size w w') := Lib.hid (B10.out.trans (b.mono B10.out.size))
  clear b K7 B10
  go_wp2_with fail
  refine (K8.out _).mono ?_
  rintro e w' ⟨rfl, b⟩
  have B12 : Hid (Below w.heap.size w w') := Lib.hid (B11.out.trans (b.mono B11.out.size))
  clear b K8 B11
  have HA := Lib.hid (brow_later' H.out B12.out)
  have HB := Lib.hid (brow_later' H2.out B12.out)
  have C1 := Lib.hid (a2at_any a len cap 0 3 (by omega) (by omega) (by omega) _ HA.out)
  have C2 := Lib.hid (a2at_any a2 len2 cap2 0 3 (by omega) (by omega) (by omega) _ HB.out)
  clear HA HB H H2 HL HL2
  go_wp2_with fail
  refine C1.out.mono ?_
  rintro e w'' ⟨⟨n, n0, n2, rfl⟩, rfl⟩
  clear C1
  go_wp2_with fail
  refine C2.out.mono ?_
  rintro e w'' ⟨⟨m, m0, m2, rfl⟩, rfl⟩
  clear C2
  obtain ⟨P, Q, T, hP, hQ, hT, hT2⟩ := KP.out n (m - 1) n0 (by omega) (by omega) (by omega)
  have P1 := Lib.hid hP
  have P2 := Lib.hid hQ
  have P3 := Lib.hid hT
  have P4 := Lib.hid hT2
  clear hP hQ hT hT2 KP
  have n2' : n ≤ 2 := by omega
  have m2' : m ≤ 2 := by omega
  go_wp2_with fail
  refine (P1.out _).mono ?_
  rintro e w' ⟨rfl, b⟩
  have B13 : Hid (Below w.heap.size w w') := Lib.hid (B12.out.trans (b.mono B12.out.size))
  clear b P1 B12
  go_wp2_with fail
  refine (P2.out _).mono ?_
  rintro e w' ⟨rfl, b⟩
  have B14 : Hid (Below w.heap.size w w') := Lib.hid (B13.out.trans (b.mono B13.out.size))
  clear b P2 B13
  go_wp2_with fail
  refine (P3.out _).mono ?_
  rintro e w' ⟨rfl, b⟩
  have B15 : Hid (Below w.heap.size w w') := Lib.hid (B14.out.trans (b.mono B14.out.size))
  clear b P3 B14
  go_wp2_with fail
  refine (P4.out _).mono ?_
  rintro e w' ⟨rfl, b⟩
  have B16 : Hid (Below w.heap.size w w') := Lib.hid (B15.out.trans (b.mono B15.out.size))
  clear b P4 B15
  generalize sumL u = X1 at *
  generalize sumL v = X2 at *
  generalize sumL uv = X3 at *
  go_wp2_with fail
  refine (Q1.out _).mono ?_
  rintro e y1 ⟨rfl, b⟩
  have y1B : Hid (Below w.heap.size w y1) := Lib.hid (B16.out.trans (b.mono B16.out.size))
  clear b Q1 B16
  go_wp2_with fail
  have R1 : Hid (Row4 (y1.alloc (.cells #[.int .i64 (X1 0), .int .i64 (X1 1), .int .i64 (X1 2), .int .i64 (X1 3)] 54)) y1.heap.size X1) := Lib.hid (Row4.new _ _)
  have z1B : Hid (Below w.heap.size w (y1.alloc (.cells #[.int .i64 (X1 0), .int .i64 (X1 1), .int .i64 (X1 2), .int .i64 (X1 3)] 54))) := Lib.hid (y1B.out.alloc y1B.out.size _)
  generalize y1.alloc (.cells #[.int .i64 (X1 0), .int .i64 (X1 1), .int .i64 (X1 2), .int .i64 (X1 3)] 54) = z1 at *
  generalize y1.heap.size = b1 at *
  refine (Q2.out _).mono ?_
  rintro e y2 ⟨rfl, b⟩
  have y2B : Hid (Below w.heap.size w y2) := Lib.hid (z1B.out.trans (b.mono z1B.out.size))
  have R1' : Hid (Row4 y2 b1 X1) := Lib.hid (R1.out.later b)
  clear b Q2 z1B R1 y1B
  go_wp2_with fail
  have R2 : Hid (Row4 (y2.alloc (.cells #[.int .i64 (X2 0), .int .i64 (X2 1), .int .i64 (X2 2), .int .i64 (X2 3)] 54)) y2.heap.size X2) := Lib.hid (Row4.new _ _)
  have z2B : Hid (Below w.heap.size w (y2.alloc (.cells #[.int .i64 (X2 0), .int .i64 (X2 1), .int .i64 (X2 2), .int .i64 (X2 3)] 54))) := Lib.hid (y2B.out.alloc y2B.out.size _)
  have R1 : Hid (Row4 (y2.alloc (.cells #[.int .i64 (X2 0), .int .i64 (X2 1), .int .i64 (X2 2), .int .i64 (X2 3)] 54)) b1 X1) := Lib.hid (R1'.out.later ((Below.refl _ _).alloc (Nat.le_refl _) _))
  clear R1'
  generalize y2.alloc (.cells #[.int .i64 (X2 0), .int .i64 (X2 1), .int .i64 (X2 2), .int .i64 (X2 3)] 54) = z2 at *
  generalize y2.heap.size = b2 at *
  refine (Q3.out _).mono ?_
  rintro e y3 ⟨rfl, b⟩
  have y3B : Hid (Below w.heap.size w y3) := Lib.hid (z2B.out.trans (b.mono z2B.out.size))
  have R1' : Hid (Row4 y3 b1 X1) := Lib.hid (R1.out.later b)
  have R2' : Hid (Row4 y3 b2 X2) := Lib.hid (R2.out.later b)
  clear b Q3 z2B R1 R2 y2B
  have A3 : Below y3.heap.size y3 (y3.alloc (.cells #[.int .i64 (X3 0), .int .i64 (X3 1), .int .i64 (X3 2), .int .i64 (X3 3)] 54)) := (Below.refl _ _).alloc (Nat.le_refl _) _
  have R3 : Hid (Row4 (y3.alloc (.cells #[.int .i64 (X3 0), .int .i64 (X3 1), .int .i64 (X3 2), .int .i64 (X3 3)] 54)) y3.heap.size X3) := Lib.hid (Row4.new _ _)
  have z3B : Hid (Below w.heap.size w (y3.alloc (.cells #[.int .i64 (X3 0), .int .i64 (X3 1), .int .i64 (X3 2), .int .i64 (X3 3)] 54))) := Lib.hid (y3B.out.alloc y3B.out.size _)
  have R1 : Hid (Row4 (y3.alloc (.cells #[.int .i64 (X3 0), .int .i64 (X3 1), .int .i64 (X3 2), .int .i64 (X3 3)] 54)) b1 X1) := Lib.hid (R1'.out.later A3)
  have R2 : Hid (Row4 (y3.alloc (.cells #[.int .i64 (X3 0), .int .i64 (X3 1), .int .i64 (X3 2), .int .i64 (X3 3)] 54)) b2 X2) := Lib.hid (R2'.out.later A3)
  clear R1' R2' A3
  go_wp2
  obtain ⟨z3, hz3⟩ : ∃ z3, y3.alloc (.cells #[.int .i64 (X3 0), .int .i64 (X3 1), .int .i64 (X3 2), .int .i64 (X3 3)] 54) = z3 := ⟨_, rfl⟩
  rw [hz3] at R1 R2 R3 z3B ⊢
  clear hz3
  generalize y3.heap.size = b3 at *
  clear y3B
  go_loopw [40] (fun i wr => ∃ k n : Nat, k ≤ 4 ∧ i = .int .i64 k ∧ wr = z3.drewN n) (fun i _ => 4 - (intOf i).toNat)
  case atStart => exact ⟨0, 0, by omega, rfl, rfl⟩
  case round =>
    obtain ⟨k, n, hk, rfl, hw⟩ := hrel
    have W := Lib.hid hw
    by_cases hlt : k < 4
    · have hlt' : (k : Int) < 4 := by omega
      have c1 : wr.cell? ⟨b1, k, none⟩ = some (.int .i64 (X1 k)) := by rw [hw]; exact R1.out.cell hlt
      have c2 : wr.cell? ⟨b2, k, none⟩ = some (.int .i64 (X2 k)) := by rw [hw]; exact R2.out.cell hlt
      have c3 : wr.cell? ⟨b3, k, none⟩ = some (.int .i64 (X1 k + X2 k)) := by rw [hw, ← SS.out]; exact R3.out.cell hlt
      obtain ⟨⟨s1, s2⟩, s3, s4⟩ := SB.out k
      clear hw
      generalize X1 k = p1 at c1 c3 s1 s2
      generalize X2 k = p2 at c2 c3 s3 s4
      go_wp2
      go_quiet (fail)
      go_wp2
      go_roundw
      case rel => exact ⟨k + 1, _, by omega, by go_num, by rw [W.out, World.drewN_drewN]⟩
      case measure => simp [intOf]; omega
    · obtain rfl : k = 4 := by omega
      have B : Hid (Below w.heap.size w wr) := Lib.hid (by rw [hw]; exact z3B.out.trans ⟨rfl, rfl, rfl, Nat.le_refl _, fun _ _ => rfl⟩)
      clear hw W
      go_wp2
      go_ret
      exact ⟨rfl, B.out⟩
set_option maxRecDepth 20000 in
theorem fnWords_walk (a : Option Addr) (len cap : Nat) (a2 : Option Addr) (len2 cap2 : Nat) (w : World) (h : BRow w.heap.size w a len) (h2 : BRow w.heap.size w a2 len2) :
    Calls Try.prog 11 #[.slice a len cap, .slice a2 len2 cap2] w fun e w' => e = .returned (.bool true) ∧ Below w.heap.size w w' := by
  by_cases h3 : len ≤ 3000 ∧ len2 ≤ 3000
  · exact fwords_core a len cap a2 len2 cap2 w h h2 h3.1 h3.2
  · have LONG : Hid (∀ w, Calls Try.prog 37 #[.slice a len cap, .slice a2 len2 cap2] w fun e w' => e = .returned (.bool true) ∧ w = w') := Lib.hid fun w => by
      have := a2long_any a len cap a2 len2 cap2 w
      rwa [show (decide (3000 < len) || decide (3000 < len2)) = true by simp; omega] at this
    clear h h2 h3
    go_enter Try.func11, Try.ntmps11
    go_wp2_with fail
    refine (LONG.out _).mono ?_
    rintro e w' ⟨rfl, rfl⟩
    go_wp2
    go_ret
    exact ⟨rfl, Below.refl _ _⟩
end Go.Proofs.Ytdcphheeapmjcaa
