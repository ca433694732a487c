/- The document's numbers w of a block, walked: a loop by itself. For a text of whole blocks. -/
import Derived.Test.YtdcmjmmfclhfbaaQCut
namespace Go.Proofs.Ytdcmjmmfclhfbaa
open Go.RowKit Bk
set_option linter.unusedVariables false
set_option linter.unusedSimpArgs false

set_option maxRecDepth 1000000 in
set_option maxHeartbeats 16000000 in
theorem qws {Q0 : Exit → Act → World → Prop} {c0 c1 c2 c3 c4 c5 c6 c8 c9 c10 c14 c15 c16 c17 c18 c19 c20 c21 c22 c23 c24 c25 c26 c27 c28 c29 c30 c31 c32 c33 c34 c35 c36 c37 c38 c39 c40 c41 c42 c43 c44 c45 c46 c47 c48 c49 c50 c51 c52 c53 c54 c55 c56 c57 c58 c59 c60 c61 c62 c63 c64 c65 c66 c67 c68 c69 c70 c71 c72 c73 c74 c75 c76 c77 c78 c79 c80 c81 c82 c83 c84 c85 c86 c87 c88 c89 c90 c91 c92 c93 c94 c95 c96 c97 c98 c99 c100 c101 c102 c103 c104 c105 c106 c107 c108 c109 c110 c111 c112 c113 c114 c115 c116 c117 c118 c119 c120 c121 c122 c123 c124 c125 c126 c127 c128 c129 c130 c131 c132 c133 c134 c135 c136 c137 c138 c139 c140 c141 c142 c143 c144 c145 c146 c147 c148 c149 c150 c151 c152 c153 c154 c155 c156 c157 c158 c159 c160 c161 c162 c163 c164 c165 c166 c167 c168 c169 c170 c171 c172 c173 c174 c175 c176 c177 c178 c179 c180 c181 c182 c183 c184 c185 c186 c187 c188 c189 c190 c191 c192 c193 c194 c195 c196 c197 c198 c199 c200 c201 c202 c203 c204 c205 c206 c207 c208 c209 c210 c211 c212 c213 c214 c215 c216 c217 c218 c219 c220 c221 c222 c223 c224 c225 c226 c227 c228 c229 c230 c231 c232 c233 c234 c235 c236 c237 c238 c239 c240 c241 c242 c243 c244 c245 c246 c247 c248 c249 c250 c251 c252 c253 c254 c255 c256 c257 c258 c259 c260 c261 c262 c263 c264 c265 c266 c267 c268 c269 c270 c271 c272 c273 c274 c275 c276 c277 c278 c279 c280 c281 c282 c283 c284 c285 c286 c287 c288 c289 c290 c291 c292 c293 c294 c295 c296 c297 c298 c299 c300 c301 c302 c303 c304 c305 c306 c307 c308 c309 c310 c311 c312 c313 c314 c315 c316 c317 c318 c319 c320 c321 c322 c323 c324 c325 c326 c327 c328 c329 c330 c331 c332 c333 c334 c335 c336 c337 c338 c339 c340 c341 c342 c343 c344 c345 c346 c347 c348 c349 : Value} {wq : World} {ga k7 NN f : Nat} {W : List Nat} {P : List UInt8} (nW : W.length = 64) (lW : Lt W) (hwlow : ∀ i, i < 16 → at' W i = bnum (P.drop f) i) (hwat : ∀ i, 16 ≤ i → i < 64 → at' W i = swn W i) (hRa : Row wq ga 0 (bs P)) (hP : P.length = NN) (hf : f + 64 ≤ NN) (hN : NN ≤ 1000000) (hpan : ∀ c (a : Act) tm w, Q0 (.panic c) { a with tmps := tm } w → Q0 (.panic c) a w)
    (hexit : ∀ (u12 u13 u14 u15 u16 u78 u79 u80 u81 u82 u83 u84 u85 u86 u87 u88 u89 u90 u91 u92 u93 u94 u95 u96 u97 u98 u99 u100 u101 u102 u103 u104 u105 u106 u107 u108 u109 u110 u111 u112 u113 u114 u115 u116 u117 u118 u119 u120 u121 u122 u123 u124 u125 u126 u127 u128 u129 u130 u131 u132 u133 u134 u135 u136 u137 u138 u139 u140 u141 u142 u143 u144 u145 u146 u147 u148 u149 u150 u151 u152 u153 u154 u155 u156 u157 u158 u159 u160 u161 u162 u163 u164 u165 u166 u167 u168 u169 u170 u171 u172 u173 u174 u175 u176 u177 : Value) (wr : World), (∃ gm cm, u12 = .slice (some ⟨gm, 0, none⟩) 64 cm ∧ wq.heap.size ≤ gm ∧ Row wr gm 0 (us W) ∧ Below wq.heap.size wq wr) → Q0 (.exit 8) ⟨List.toArray (c0 :: c1 :: c2 :: c3 :: c4 :: c5 :: c6 :: .slice (some ⟨ga, 0, none⟩) NN k7 :: c8 :: c9 :: c10 :: .int .i64 (f : Int) :: u12 :: u13 :: u14 :: u15 :: u16 :: c17 :: c18 :: c19 :: c20 :: c21 :: c22 :: c23 :: c24 :: c25 :: c26 :: c27 :: c28 :: c29 :: c30 :: c31 :: c32 :: c33 :: c34 :: c35 :: c36 :: c37 :: c38 :: c39 :: c40 :: c41 :: c42 :: c43 :: c44 :: c45 :: c46 :: c47 :: c48 :: c49 :: c50 :: c51 :: c52 :: c53 :: c54 :: c55 :: c56 :: c57 :: c58 :: c59 :: c60 :: c61 :: c62 :: c63 :: c64 :: c65 :: c66 :: c67 :: c68 :: c69 :: c70 :: c71 :: c72 :: c73 :: c74 :: c75 :: c76 :: c77 :: u78 :: u79 :: u80 :: u81 :: u82 :: u83 :: u84 :: u85 :: u86 :: u87 :: u88 :: u89 :: u90 :: u91 :: u92 :: u93 :: u94 :: u95 :: u96 :: u97 :: u98 :: u99 :: u100 :: u101 :: u102 :: u103 :: u104 :: u105 :: u106 :: u107 :: u108 :: u109 :: u110 :: u111 :: u112 :: u113 :: u114 :: u115 :: u116 :: u117 :: u118 :: u119 :: u120 :: u121 :: u122 :: u123 :: u124 :: u125 :: u126 :: u127 :: u128 :: u129 :: u130 :: u131 :: u132 :: u133 :: u134 :: u135 :: u136 :: u137 :: u138 :: u139 :: u140 :: u141 :: u142 :: u143 :: u144 :: u145 :: u146 :: u147 :: u148 :: u149 :: u150 :: u151 :: u152 :: u153 :: u154 :: u155 :: u156 :: u157 :: u158 :: u159 :: u160 :: u161 :: u162 :: u163 :: u164 :: u165 :: u166 :: u167 :: u168 :: u169 :: u170 :: u171 :: u172 :: u173 :: u174 :: u175 :: u176 :: u177 :: c178 :: c179 :: c180 :: c181 :: c182 :: c183 :: c184 :: c185 :: c186 :: c187 :: c188 :: c189 :: c190 :: c191 :: c192 :: c193 :: c194 :: c195 :: c196 :: c197 :: c198 :: c199 :: c200 :: c201 :: c202 :: c203 :: c204 :: c205 :: c206 :: c207 :: c208 :: c209 :: c210 :: c211 :: c212 :: c213 :: c214 :: c215 :: c216 :: c217 :: c218 :: c219 :: c220 :: c221 :: c222 :: c223 :: c224 :: c225 :: c226 :: c227 :: c228 :: c229 :: c230 :: c231 :: c232 :: c233 :: c234 :: c235 :: c236 :: c237 :: c238 :: c239 :: c240 :: c241 :: c242 :: c243 :: c244 :: c245 :: c246 :: c247 :: c248 :: c249 :: c250 :: c251 :: c252 :: c253 :: c254 :: c255 :: c256 :: c257 :: c258 :: c259 :: c260 :: c261 :: c262 :: c263 :: c264 :: c265 :: c266 :: c267 :: c268 :: c269 :: c270 :: c271 :: c272 :: c273 :: c274 :: c275 :: c276 :: c277 :: c278 :: c279 :: c280 :: c281 :: c282 :: c283 :: c284 :: c285 :: c286 :: c287 :: c288 :: c289 :: c290 :: c291 :: c292 :: c293 :: c294 :: c295 :: c296 :: c297 :: c298 :: c299 :: c300 :: c301 :: c302 :: c303 :: c304 :: c305 :: c306 :: c307 :: c308 :: c309 :: c310 :: c311 :: c312 :: c313 :: c314 :: c315 :: c316 :: c317 :: c318 :: c319 :: c320 :: c321 :: c322 :: c323 :: c324 :: c325 :: c326 :: c327 :: c328 :: c329 :: c330 :: c331 :: c332 :: c333 :: c334 :: c335 :: c336 :: c337 :: c338 :: c339 :: c340 :: c341 :: c342 :: c343 :: c344 :: c345 :: c346 :: c347 :: c348 :: c349 :: []), []⟩ wr) :
    Code.wp Try.prog ((Try.f28.body.bind (blockAt 8)).getD .skip) Q0 ⟨List.toArray (c0 :: c1 :: c2 :: c3 :: c4 :: c5 :: c6 :: .slice (some ⟨ga, 0, none⟩) NN k7 :: c8 :: c9 :: c10 :: .int .i64 (f : Int) :: .slice none 0 0 :: .int .i64 0 :: c14 :: c15 :: c16 :: c17 :: c18 :: c19 :: c20 :: c21 :: c22 :: c23 :: c24 :: c25 :: c26 :: c27 :: c28 :: c29 :: c30 :: c31 :: c32 :: c33 :: c34 :: c35 :: c36 :: c37 :: c38 :: c39 :: c40 :: c41 :: c42 :: c43 :: c44 :: c45 :: c46 :: c47 :: c48 :: c49 :: c50 :: c51 :: c52 :: c53 :: c54 :: c55 :: c56 :: c57 :: c58 :: c59 :: c60 :: c61 :: c62 :: c63 :: c64 :: c65 :: c66 :: c67 :: c68 :: c69 :: c70 :: c71 :: c72 :: c73 :: c74 :: c75 :: c76 :: c77 :: c78 :: c79 :: c80 :: c81 :: c82 :: c83 :: c84 :: c85 :: c86 :: c87 :: c88 :: c89 :: c90 :: c91 :: c92 :: c93 :: c94 :: c95 :: c96 :: c97 :: c98 :: c99 :: c100 :: c101 :: c102 :: c103 :: c104 :: c105 :: c106 :: c107 :: c108 :: c109 :: c110 :: c111 :: c112 :: c113 :: c114 :: c115 :: c116 :: c117 :: c118 :: c119 :: c120 :: c121 :: c122 :: c123 :: c124 :: c125 :: c126 :: c127 :: c128 :: c129 :: c130 :: c131 :: c132 :: c133 :: c134 :: c135 :: c136 :: c137 :: c138 :: c139 :: c140 :: c141 :: c142 :: c143 :: c144 :: c145 :: c146 :: c147 :: c148 :: c149 :: c150 :: c151 :: c152 :: c153 :: c154 :: c155 :: c156 :: c157 :: c158 :: c159 :: c160 :: c161 :: c162 :: c163 :: c164 :: c165 :: c166 :: c167 :: c168 :: c169 :: c170 :: c171 :: c172 :: c173 :: c174 :: c175 :: c176 :: c177 :: c178 :: c179 :: c180 :: c181 :: c182 :: c183 :: c184 :: c185 :: c186 :: c187 :: c188 :: c189 :: c190 :: c191 :: c192 :: c193 :: c194 :: c195 :: c196 :: c197 :: c198 :: c199 :: c200 :: c201 :: c202 :: c203 :: c204 :: c205 :: c206 :: c207 :: c208 :: c209 :: c210 :: c211 :: c212 :: c213 :: c214 :: c215 :: c216 :: c217 :: c218 :: c219 :: c220 :: c221 :: c222 :: c223 :: c224 :: c225 :: c226 :: c227 :: c228 :: c229 :: c230 :: c231 :: c232 :: c233 :: c234 :: c235 :: c236 :: c237 :: c238 :: c239 :: c240 :: c241 :: c242 :: c243 :: c244 :: c245 :: c246 :: c247 :: c248 :: c249 :: c250 :: c251 :: c252 :: c253 :: c254 :: c255 :: c256 :: c257 :: c258 :: c259 :: c260 :: c261 :: c262 :: c263 :: c264 :: c265 :: c266 :: c267 :: c268 :: c269 :: c270 :: c271 :: c272 :: c273 :: c274 :: c275 :: c276 :: c277 :: c278 :: c279 :: c280 :: c281 :: c282 :: c283 :: c284 :: c285 :: c286 :: c287 :: c288 :: c289 :: c290 :: c291 :: c292 :: c293 :: c294 :: c295 :: c296 :: c297 :: c298 :: c299 :: c300 :: c301 :: c302 :: c303 :: c304 :: c305 :: c306 :: c307 :: c308 :: c309 :: c310 :: c311 :: c312 :: c313 :: c314 :: c315 :: c316 :: c317 :: c318 :: c319 :: c320 :: c321 :: c322 :: c323 :: c324 :: c325 :: c326 :: c327 :: c328 :: c329 :: c330 :: c331 :: c332 :: c333 :: c334 :: c335 :: c336 :: c337 :: c338 :: c339 :: c340 :: c341 :: c342 :: c343 :: c344 :: c345 :: c346 :: c347 :: c348 :: c349 :: []), []⟩ wq := by
  conv => arg 2; whnf
  have HRa := hide hRa
  have HLW := hide lW
  have HWlow := hide hwlow
  have HWat := hide hwat
  have HT2 := hide hP
  have HF1 := hide hf
  have HPAN := hide hpan
  have hf0 : (f : Int) ≤ 1000000 := by omega
  clear hRa lW hwlow hwat hP hf hpan
  go_loopg [12, 13, 14, 15, 16] 64 (fun g v tt _ _ _ wr => ∃ i : Nat, i + g = 64 ∧ tt = .int .i64 i ∧ Ow wr wq.heap.size v i (us (W.take i)) ∧ Below wq.heap.size wq wr)
  case atStart => exact ⟨0, rfl, rfl, Ow.nil _ _, Below.refl _ _⟩
  case round =>
    obtain ⟨i, hig, rfl, hO, hBl⟩ := hrel
    have HO := hide hO
    have HBL := hide hBl
    obtain ⟨am, cm, rfl, hcm⟩ := hO.shape
    clear hO hBl
    by_cases hi64 : i < 64
    · obtain ⟨g5, rfl⟩ : ∃ g5, gk = g5 + 1 := ⟨gk - 1, by omega⟩
      have hi64I : (i : Int) < 64 := by omega
      have HI := hide (show i + 1 + g5 = 64 ∧ i + 1 ≤ 1000000 ∧ W.take (i + 1) = W.take i ++ [at' W i] from ⟨by omega, by omega, take_at W i (by omega)⟩)
      by_cases hi16 : i < 16
      · have hi16I : (i : Int) < 16 := by omega
        have hb := HWlow.out i hi16
        rw [bnum_at] at hb
        obtain ⟨f4, ef4⟩ : ∃ f4, f + 4 * i = f4 := ⟨_, rfl⟩
        rw [ef4] at hb
        have hf4 : f4 + 3 < NN := by have := HF1.out; omega
        have R8 := HRa.out.below HBL.out HRa.out.lt
        have lP := HT2.out
        have hy0 := R8.y0 f4 (by omega)
        have hy1 := R8.y0 (f4 + 1) (by omega)
        have hy2 := R8.y0 (f4 + 2) (by omega)
        have hy3 := R8.y0 (f4 + 3) (by omega)
        have ly0 := by_lt P f4
        have ly1 := by_lt P (f4 + 1)
        have ly2 := by_lt P (f4 + 2)
        have ly3 := by_lt P (f4 + 3)
        obtain ⟨y0, ey0⟩ : ∃ y, by' P f4 = y := ⟨_, rfl⟩
        obtain ⟨y1, ey1⟩ : ∃ y, by' P (f4 + 1) = y := ⟨_, rfl⟩
        obtain ⟨y2, ey2⟩ : ∃ y, by' P (f4 + 2) = y := ⟨_, rfl⟩
        obtain ⟨y3, ey3⟩ : ∃ y, by' P (f4 + 3) = y := ⟨_, rfl⟩
        rw [ey0] at hy0 hb ly0
        rw [ey1] at hy1 hb ly1
        rw [ey2] at hy2 hb ly2
        rw [ey3] at hy3 hb ly3
        obtain ⟨nu, enu⟩ : ∃ nu, at' W i = nu := ⟨_, rfl⟩
        rw [enu] at hb
        obtain ⟨m0, em0⟩ : ∃ z, y0 * 16777216 = z := ⟨_, rfl⟩
        obtain ⟨m1, em1⟩ : ∃ z, y1 * 65536 = z := ⟨_, rfl⟩
        obtain ⟨m2, em2⟩ : ∃ z, y2 * 256 = z := ⟨_, rfl⟩
        obtain ⟨s1, es1⟩ : ∃ s1, m0 + m1 = s1 := ⟨_, rfl⟩
        obtain ⟨s2, es2⟩ : ∃ s2, s1 + m2 = s2 := ⟨_, rfl⟩
        have u0 : IntKind.u32.wrap (y0 : Int) = (y0 : Int) := IntWalk.u32_in _ (by omega)
        have u1 : IntKind.u32.wrap (y1 : Int) = (y1 : Int) := IntWalk.u32_in _ (by omega)
        have u2 : IntKind.u32.wrap (y2 : Int) = (y2 : Int) := IntWalk.u32_in _ (by omega)
        have u3 : IntKind.u32.wrap (y3 : Int) = (y3 : Int) := IntWalk.u32_in _ (by omega)
        have q0 : IntKind.u32.wrap ((y0 : Int) * 16777216) = (m0 : Int) := by rw [IntWalk.u32_in _ (by omega)]; omega
        have q1 : IntKind.u32.wrap ((y1 : Int) * 65536) = (m1 : Int) := by rw [IntWalk.u32_in _ (by omega)]; omega
        have q2 : IntKind.u32.wrap ((y2 : Int) * 256) = (m2 : Int) := by rw [IntWalk.u32_in _ (by omega)]; omega
        have a1 : IntKind.u32.wrap ((m0 : Int) + (m1 : Int)) = (s1 : Int) := by rw [IntWalk.u32_in _ (by omega)]; omega
        have a2 : IntKind.u32.wrap ((s1 : Int) + (m2 : Int)) = (s2 : Int) := by rw [IntWalk.u32_in _ (by omega)]; omega
        have a3 : IntKind.u32.wrap ((s2 : Int) + (y3 : Int)) = (nu : Int) := by rw [IntWalk.u32_in _ (by omega)]; omega
        have x0 : IntKind.i64.wrap (4 * (i : Int)) = 4 * (i : Int) := IntWalk.i64_in _ (by omega)
        have x1 : IntKind.i64.wrap ((f : Int) + 4 * (i : Int)) = (f4 : Int) := by rw [IntWalk.i64_in _ (by omega)]; omega
        obtain ⟨p1, ep1⟩ : ∃ p, f4 + 1 = p := ⟨_, rfl⟩
        obtain ⟨p2, ep2⟩ : ∃ p, f4 + 2 = p := ⟨_, rfl⟩
        obtain ⟨p3, ep3⟩ : ∃ p, f4 + 3 = p := ⟨_, rfl⟩
        rw [ep1] at hy1
        rw [ep2] at hy2
        rw [ep3] at hy3
        have w1 : IntKind.i64.wrap ((f4 : Int) + 1) = (p1 : Int) := by rw [IntWalk.i64_in _ (by omega)]; omega
        have w2 : IntKind.i64.wrap ((f4 : Int) + 2) = (p2 : Int) := by rw [IntWalk.i64_in _ (by omega)]; omega
        have w3 : IntKind.i64.wrap ((f4 : Int) + 3) = (p3 : Int) := by rw [IntWalk.i64_in _ (by omega)]; omega
        have b0 : (f4 : Int) < (NN : Int) := by omega
        have b1 : (p1 : Int) < (NN : Int) := by omega
        have b2 : (p2 : Int) < (NN : Int) := by omega
        have b3 : (p3 : Int) < (NN : Int) := by omega
        have HNU := hide enu
        have HCO : Hid (∀ w9 : World, Row w9 ga 0 (bs P) → w9.cell? ⟨ga, f4, none⟩ = some (.int .u8 (y0 : Int)) ∧ w9.cell? ⟨ga, p1, none⟩ = some (.int .u8 (y1 : Int)) ∧ w9.cell? ⟨ga, p2, none⟩ = some (.int .u8 (y2 : Int)) ∧ w9.cell? ⟨ga, p3, none⟩ = some (.int .u8 (y3 : Int))) := hide fun w9 R9 =>
          ⟨by have h9 := R9.y0 f4 (by omega); rwa [ey0] at h9, by have h9 := R9.y0 p1 (by omega); rwa [← ep1, ey1, ep1] at h9, by have h9 := R9.y0 p2 (by omega); rwa [← ep2, ey2, ep2] at h9, by have h9 := R9.y0 p3 (by omega); rwa [← ep3, ey3, ep3] at h9⟩
        clear ey0 ey1 ey2 ey3 enu hb es1 es2 hf4 R8 hig hi16 hi64 ef4 ly0 ly1 ly2 ly3 lP em0 em1 em2 ep1 ep2 ep3
        go_wp2_with fail
        refine wp_region_ord (fun w9 => w9.cell? ⟨ga, f4, none⟩ = some (.int .u8 (y0 : Int)) ∧ w9.cell? ⟨ga, p1, none⟩ = some (.int .u8 (y1 : Int)) ∧ w9.cell? ⟨ga, p2, none⟩ = some (.int .u8 (y2 : Int)) ∧ w9.cell? ⟨ga, p3, none⟩ = some (.int .u8 (y3 : Int))) 32 [(0, some true), (1, some true), (2, some true), (3, some true), (4, some false), (5, some true), (6, some true), (7, some true), (8, some true), (9, some true), (10, some true), (11, some false), (12, some true), (13, some true), (14, some true), (15, some true), (16, some true), (17, some true), (18, some true), (19, some false), (20, some true), (21, some true), (22, some true), (23, some true), (24, some true), (25, some true), (26, some true), (27, some false), (28, some true), (29, some true), (30, none), (31, none), (32, none)] (by kernel_rfl) (by kernel_rfl) (fun _ _ _ _ h => HPAN.out _ _ _ _ h) ⟨hy0, hy1, hy2, hy3⟩ ?_
        refine ord_pureE (o := ⟨some 88, _, _, _, _, _⟩) rfl (by kernel_rfl) ⟨_, fun w9 => by (go_simp; try rfl), ?_⟩
        simp only [Act.put, List.setIfInBounds_toArray, List.set_cons_zero, List.set_cons_succ]
        refine ord_pureE (o := ⟨some 89, _, _, _, _, _⟩) rfl (by kernel_rfl) ⟨_, fun w9 => by (go_simp; try rfl), ?_⟩
        simp only [Act.put, List.setIfInBounds_toArray, List.set_cons_zero, List.set_cons_succ]
        refine ord_pureE (o := ⟨some 90, _, _, _, _, _⟩) rfl (by kernel_rfl) ⟨_, fun w9 => by (go_simp; try rfl), ?_⟩
        simp only [Act.put, List.setIfInBounds_toArray, List.set_cons_zero, List.set_cons_succ]
        refine ord_pureE (o := ⟨some 91, _, _, _, _, _⟩) rfl (by kernel_rfl) ⟨_, fun w9 => by (go_simp; try rfl), ?_⟩
        simp only [Act.put, List.setIfInBounds_toArray, List.set_cons_zero, List.set_cons_succ]
        refine ord_heldE (o := ⟨some 92, _, _, _, _, _⟩) rfl (by kernel_rfl) ⟨_, fun w9 h9 => by (obtain ⟨h91, h92, h93, h94⟩ := h9; go_simp; try rfl), ?_⟩
        simp only [Act.put, List.setIfInBounds_toArray, List.set_cons_zero, List.set_cons_succ]
        refine ord_pureE (o := ⟨some 93, _, _, _, _, _⟩) rfl (by kernel_rfl) ⟨_, fun w9 => by (go_simp; try rfl), ?_⟩
        simp only [Act.put, List.setIfInBounds_toArray, List.set_cons_zero, List.set_cons_succ]
        refine ord_pureE (o := ⟨some 94, _, _, _, _, _⟩) rfl (by kernel_rfl) ⟨_, fun w9 => by (go_simp; try rfl), ?_⟩
        simp only [Act.put, List.setIfInBounds_toArray, List.set_cons_zero, List.set_cons_succ]
        refine ord_pureE (o := ⟨some 95, _, _, _, _, _⟩) rfl (by kernel_rfl) ⟨_, fun w9 => by (go_simp; try rfl), ?_⟩
        simp only [Act.put, List.setIfInBounds_toArray, List.set_cons_zero, List.set_cons_succ]
        refine ord_pureE (o := ⟨some 96, _, _, _, _, _⟩) rfl (by kernel_rfl) ⟨_, fun w9 => by (go_simp; try rfl), ?_⟩
        simp only [Act.put, List.setIfInBounds_toArray, List.set_cons_zero, List.set_cons_succ]
        refine ord_pureE (o := ⟨some 97, _, _, _, _, _⟩) rfl (by kernel_rfl) ⟨_, fun w9 => by (go_simp; try rfl), ?_⟩
        simp only [Act.put, List.setIfInBounds_toArray, List.set_cons_zero, List.set_cons_succ]
        refine ord_pureE (o := ⟨some 98, _, _, _, _, _⟩) rfl (by kernel_rfl) ⟨_, fun w9 => by (go_simp; try rfl), ?_⟩
        simp only [Act.put, List.setIfInBounds_toArray, List.set_cons_zero, List.set_cons_succ]
        refine ord_heldE (o := ⟨some 99, _, _, _, _, _⟩) rfl (by kernel_rfl) ⟨_, fun w9 h9 => by (obtain ⟨h91, h92, h93, h94⟩ := h9; go_simp; try rfl), ?_⟩
        simp only [Act.put, List.setIfInBounds_toArray, List.set_cons_zero, List.set_cons_succ]
        refine ord_pureE (o := ⟨some 100, _, _, _, _, _⟩) rfl (by kernel_rfl) ⟨_, fun w9 => by (go_simp; try rfl), ?_⟩
        simp only [Act.put, List.setIfInBounds_toArray, List.set_cons_zero, List.set_cons_succ]
        refine ord_pureE (o := ⟨some 101, _, _, _, _, _⟩) rfl (by kernel_rfl) ⟨_, fun w9 => by (go_simp; try rfl), ?_⟩
        simp only [Act.put, List.setIfInBounds_toArray, List.set_cons_zero, List.set_cons_succ]
        refine ord_pureE (o := ⟨some 102, _, _, _, _, _⟩) rfl (by kernel_rfl) ⟨_, fun w9 => by (go_simp; try rfl), ?_⟩
        simp only [Act.put, List.setIfInBounds_toArray, List.set_cons_zero, List.set_cons_succ]
        refine ord_pureE (o := ⟨some 103, _, _, _, _, _⟩) rfl (by kernel_rfl) ⟨_, fun w9 => by (go_simp; try rfl), ?_⟩
        simp only [Act.put, List.setIfInBounds_toArray, List.set_cons_zero, List.set_cons_succ]
        refine ord_pureE (o := ⟨some 104, _, _, _, _, _⟩) rfl (by kernel_rfl) ⟨_, fun w9 => by (go_simp; try rfl), ?_⟩
        simp only [Act.put, List.setIfInBounds_toArray, List.set_cons_zero, List.set_cons_succ]
        refine ord_pureE (o := ⟨some 105, _, _, _, _, _⟩) rfl (by kernel_rfl) ⟨_, fun w9 => by (go_simp; try rfl), ?_⟩
        simp only [Act.put, List.setIfInBounds_toArray, List.set_cons_zero, List.set_cons_succ]
        refine ord_pureE (o := ⟨some 106, _, _, _, _, _⟩) rfl (by kernel_rfl) ⟨_, fun w9 => by (go_simp; try rfl), ?_⟩
        simp only [Act.put, List.setIfInBounds_toArray, List.set_cons_zero, List.set_cons_succ]
        refine ord_heldE (o := ⟨some 107, _, _, _, _, _⟩) rfl (by kernel_rfl) ⟨_, fun w9 h9 => by (obtain ⟨h91, h92, h93, h94⟩ := h9; go_simp; try rfl), ?_⟩
        simp only [Act.put, List.setIfInBounds_toArray, List.set_cons_zero, List.set_cons_succ]
        refine ord_pureE (o := ⟨some 108, _, _, _, _, _⟩) rfl (by kernel_rfl) ⟨_, fun w9 => by (go_simp; try rfl), ?_⟩
        simp only [Act.put, List.setIfInBounds_toArray, List.set_cons_zero, List.set_cons_succ]
        refine ord_pureE (o := ⟨some 109, _, _, _, _, _⟩) rfl (by kernel_rfl) ⟨_, fun w9 => by (go_simp; try rfl), ?_⟩
        simp only [Act.put, List.setIfInBounds_toArray, List.set_cons_zero, List.set_cons_succ]
        refine ord_pureE (o := ⟨some 110, _, _, _, _, _⟩) rfl (by kernel_rfl) ⟨_, fun w9 => by (go_simp; try rfl), ?_⟩
        simp only [Act.put, List.setIfInBounds_toArray, List.set_cons_zero, List.set_cons_succ]
        refine ord_pureE (o := ⟨some 111, _, _, _, _, _⟩) rfl (by kernel_rfl) ⟨_, fun w9 => by (go_simp; try rfl), ?_⟩
        simp only [Act.put, List.setIfInBounds_toArray, List.set_cons_zero, List.set_cons_succ]
        refine ord_pureE (o := ⟨some 112, _, _, _, _, _⟩) rfl (by kernel_rfl) ⟨_, fun w9 => by (go_simp; try rfl), ?_⟩
        simp only [Act.put, List.setIfInBounds_toArray, List.set_cons_zero, List.set_cons_succ]
        refine ord_pureE (o := ⟨some 113, _, _, _, _, _⟩) rfl (by kernel_rfl) ⟨_, fun w9 => by (go_simp; try rfl), ?_⟩
        simp only [Act.put, List.setIfInBounds_toArray, List.set_cons_zero, List.set_cons_succ]
        refine ord_pureE (o := ⟨some 114, _, _, _, _, _⟩) rfl (by kernel_rfl) ⟨_, fun w9 => by (go_simp; try rfl), ?_⟩
        simp only [Act.put, List.setIfInBounds_toArray, List.set_cons_zero, List.set_cons_succ]
        refine ord_heldE (o := ⟨some 115, _, _, _, _, _⟩) rfl (by kernel_rfl) ⟨_, fun w9 h9 => by (obtain ⟨h91, h92, h93, h94⟩ := h9; go_simp; try rfl), ?_⟩
        simp only [Act.put, List.setIfInBounds_toArray, List.set_cons_zero, List.set_cons_succ]
        refine ord_pureE (o := ⟨some 116, _, _, _, _, _⟩) rfl (by kernel_rfl) ⟨_, fun w9 => by (go_simp; try rfl), ?_⟩
        simp only [Act.put, List.setIfInBounds_toArray, List.set_cons_zero, List.set_cons_succ]
        refine ord_pureE (o := ⟨some 117, _, _, _, _, _⟩) rfl (by kernel_rfl) ⟨_, fun w9 => by (go_simp; try rfl), ?_⟩
        simp only [Act.put, List.setIfInBounds_toArray, List.set_cons_zero, List.set_cons_succ]
        refine ord_go rfl (fun K9 hK => ?_)
        go_simp
        refine hK.out _ _ (fun _ => HCO.out _ ((HRa.out.below HBL.out HRa.out.lt).alloc (.cells #[.int .u32 ((nu : Nat) : Int)] 51)).drew) ?_
        clear hK K9
        have hsz9 : wq.heap.size ≤ wr.heap.size := HBL.out.size
        refine ord_appendP (o := ⟨some 119, _, _, _, _, _⟩) rfl rfl (.tmp 88) (.tmp 118) 76 76 rfl 51 Try.underlying76 info32' (by decide) rfl rfl rfl (HO.out.keep ((Below.refl _ wr).alloc (Nat.le_refl _) (.cells #[.int .u32 ((nu : Nat) : Int)] 51))).drew ((Row.newL wr [.int .u32 ((nu : Nat) : Int)] 51).drew.src (n := 1) (cap := 1) rfl Try.underlying76 (fun u hu => by simp at hu; subst hu; rfl)) HI.out.2.1 (Nat.le_trans hsz9 (by simp)) (fun u hu => us_one' hu) ?_
        intro v9 w9 hO9 hA9 hold9
        have hB9 := hA9.below ((HO.out.keep ((Below.refl _ wr).alloc (Nat.le_refl _) (.cells #[.int .u32 ((nu : Nat) : Int)] 51))).drew) (Nat.le_trans hsz9 (by simp))
        have e9 : us (W.take i) ++ [Value.int .u32 ((nu : Nat) : Int)] = us (W.take i ++ [nu]) := by rw [us_app']; rfl
        rw [e9] at hO9
        have HO9 := hide hO9
        have HB9 := hide ((HBL.out.alloc hsz9 _).drew.trans hB9)
        refine ⟨fun _ => HCO.out _ (HRa.out.below HB9.out HRa.out.lt), ?_⟩
        clear hO9 hB9 hsz9 e9 hA9 hold9
        simp only [Act.put, List.setIfInBounds_toArray, List.set_cons_zero, List.set_cons_succ]
        refine ord_go rfl (fun K9 hK => ?_)
        go_simp
        refine hK.out _ _ (fun h => by cases h) ?_
        clear hK K9
        refine ord_end ?_
        go_wp2_with fail
        go_roundg g5
        case measure => omega
        case rel => exact ⟨i + 1, HI.out.1, by go_num, by rw [HI.out.2.2, HNU.out]; exact HO9.out, HB9.out⟩
      · have hi16I : ¬ ((i : Int) < 16) := by omega
        have hN := HWat.out i (by omega) (by omega)
        rw [← qswn] at hN
        obtain ⟨gm, cm', hvm, hgm, hcm', hRm⟩ := HO.out.row (by omega)
        obtain ⟨rfl, rfl⟩ : am = some ⟨gm, 0, none⟩ ∧ cm = cm' := by simpa using hvm
        have lT : (W.take i).length = i := by rw [List.length_take]; omega
        have c16 := hRm.u0 (i - 16) (by omega)
        have c7 := hRm.u0 (i - 7) (by omega)
        have c15 := hRm.u0 (i - 15) (by omega)
        have c2 := hRm.u0 (i - 2) (by omega)
        rw [at_take _ _ _ (by omega)] at c16 c7 c15 c2
        obtain ⟨x16, e16⟩ : ∃ x, at' W (i - 16) = x := ⟨_, rfl⟩
        obtain ⟨x7, e7⟩ : ∃ x, at' W (i - 7) = x := ⟨_, rfl⟩
        obtain ⟨x15, e15⟩ : ∃ x, at' W (i - 15) = x := ⟨_, rfl⟩
        obtain ⟨x2, e2⟩ : ∃ x, at' W (i - 2) = x := ⟨_, rfl⟩
        have l15 : x15 < 4294967296 := e15 ▸ HLW.out _
        have l2 : x2 < 4294967296 := e2 ▸ HLW.out _
        obtain ⟨nu, enu⟩ : ∃ nu, at' W i = nu := ⟨_, rfl⟩
        rw [e16, e7, e15, e2, enu] at hN
        rw [e16] at c16
        rw [e7] at c7
        rw [e15] at c15
        rw [e2] at c2
        obtain ⟨f1, ef1⟩ : ∃ z, sF x15 = z := ⟨_, rfl⟩
        obtain ⟨n1, en1⟩ : ∃ z, sN x2 = z := ⟨_, rfl⟩
        rw [ef1, en1] at hN
        unfold sF at ef1
        unfold sN at en1
        obtain ⟨a7', ea7⟩ : ∃ z, tu 7 x15 = z := ⟨_, rfl⟩
        obtain ⟨a18, ea18⟩ : ∃ z, tu 18 x15 = z := ⟨_, rfl⟩
        obtain ⟨a17, ea17⟩ : ∃ z, tu 17 x2 = z := ⟨_, rfl⟩
        obtain ⟨a19, ea19⟩ : ∃ z, tu 19 x2 = z := ⟨_, rfl⟩
        have la7 : a7' < 4294967296 := ea7 ▸ tu_lt l15
        have la18 : a18 < 4294967296 := ea18 ▸ tu_lt l15
        have la17 : a17 < 4294967296 := ea17 ▸ tu_lt l2
        have la19 : a19 < 4294967296 := ea19 ▸ tu_lt l2
        rw [ea7, ea18] at ef1
        rw [ea17, ea19] at en1
        obtain ⟨s3, es3⟩ : ∃ z, x15 / 8 = z := ⟨_, rfl⟩
        obtain ⟨s10, es10⟩ : ∃ z, x2 / 1024 = z := ⟨_, rfl⟩
        have ls3 : s3 < 4294967296 := by omega
        have ls10 : s10 < 4294967296 := by omega
        rw [es3] at ef1
        rw [es10] at en1
        have d3 : (x15 : Int) / 8 = (s3 : Int) := by omega
        have d10 : (x2 : Int) / 1024 = (s10 : Int) := by omega
        obtain ⟨f0, ef0⟩ : ∃ z, a7' ^^^ a18 = z := ⟨_, rfl⟩
        obtain ⟨n0, en0⟩ : ∃ z, a17 ^^^ a19 = z := ⟨_, rfl⟩
        have r1 := xr_int la7 la18
        have lf0 : f0 < 4294967296 := ef0 ▸ xr_lt la7 la18
        rw [ef0] at r1 ef1
        have r2 := xr_int lf0 ls3
        rw [ef1] at r2
        have r3 := xr_int la17 la19
        have ln0 : n0 < 4294967296 := en0 ▸ xr_lt la17 la19
        rw [en0] at r3 en1
        have r4 := xr_int ln0 ls10
        rw [en1] at r4
        have r5 := ad_wrap x16 f1
        obtain ⟨p1, ep1⟩ : ∃ z, ad x16 f1 = z := ⟨_, rfl⟩
        rw [ep1] at r5 hN
        have r6 := ad_wrap p1 x7
        obtain ⟨p2, ep2⟩ : ∃ z, ad p1 x7 = z := ⟨_, rfl⟩
        rw [ep2] at r6 hN
        have r7 := ad_wrap p2 n1
        rw [← hN] at r7
        have HNU := hide enu
        have E7 := hide ea7
        have E18 := hide ea18
        have E17 := hide ea17
        have E19 := hide ea19
        have L15 := hide l15
        have L2 := hide l2
        have HRm := hide hRm
        obtain ⟨j16, ej16⟩ : ∃ j, i - 16 = j := ⟨_, rfl⟩
        rw [ej16] at c16 e16
        have v16 : IntKind.i64.wrap ((i : Int) - 16) = (j16 : Int) := by rw [IntWalk.i64_in _ (by omega)]; omega
        have q16 : (j16 : Int) < (i : Int) := by omega
        obtain ⟨j7, ej7⟩ : ∃ j, i - 7 = j := ⟨_, rfl⟩
        rw [ej7] at c7 e7
        have v7 : IntKind.i64.wrap ((i : Int) - 7) = (j7 : Int) := by rw [IntWalk.i64_in _ (by omega)]; omega
        have q7 : (j7 : Int) < (i : Int) := by omega
        obtain ⟨j15, ej15⟩ : ∃ j, i - 15 = j := ⟨_, rfl⟩
        rw [ej15] at c15
        have v15 : IntKind.i64.wrap ((i : Int) - 15) = (j15 : Int) := by rw [IntWalk.i64_in _ (by omega)]; omega
        have q15 : (j15 : Int) < (i : Int) := by omega
        obtain ⟨j2, ej2⟩ : ∃ j, i - 2 = j := ⟨_, rfl⟩
        rw [ej2] at c2
        have v2 : IntKind.i64.wrap ((i : Int) - 2) = (j2 : Int) := by rw [IntWalk.i64_in _ (by omega)]; omega
        have q2 : (j2 : Int) < (i : Int) := by omega
        have HCO : Hid (∀ w9 : World, Row w9 gm 0 (us (W.take i)) → w9.cell? ⟨gm, j16, none⟩ = some (.int .u32 (x16 : Int)) ∧ w9.cell? ⟨gm, j7, none⟩ = some (.int .u32 (x7 : Int))) := hide fun w9 R9 =>
          ⟨by have h9 := R9.u0 j16 (by omega); rwa [at_take _ _ _ (by omega), e16] at h9, by have h9 := R9.u0 j7 (by omega); rwa [at_take _ _ _ (by omega), e7] at h9⟩
        clear hN ea7 ea18 ea17 ea19 es3 es10 ef0 ef1 en0 en1 ep1 ep2 e16 e7 e15 e2 enu l15 l2 la7 la18 la17 la19 ls3 ls10 lf0 ln0 ej16 ej7 ej15 ej2 hRm lT hvm hgm hcm' hi16 hi64 hig
        go_wp2_with fail
        refine wp_region_still_tail 20 (by kernel_rfl) (by kernel_rfl) ?_
        simp only [List.take_succ_cons, List.take_zero, List.drop_succ_cons, List.drop_zero]
        repeat still_step
        still_call (qturn7e _ L15.out E7.out)
        repeat still_step
        still_call (qturn18e _ L15.out E18.out)
        repeat still_step
        refine wpStill_nil ?_
        go_wp2_with fail
        generalize hX : ({ heap := wr.heap, tape := wr.tape, drawn := wr.drawn + 1, os := wr.os, output := wr.output } : World) = W1
        have hd : wr.drew = W1 := hX
        replace c2 : W1.cell? ⟨gm, j2, none⟩ = some (.int .u32 (x2 : Int)) := by rw [← hd]; exact c2
        replace HRm : Hid (Row W1 gm 0 (us (W.take i))) := by rw [← hd]; exact HRm.out.drew
        replace HO : Hid (Ow W1 wq.heap.size (.slice (some ⟨gm, 0, none⟩) i cm) i (us (W.take i))) := by rw [← hd]; exact HO.out.drew
        replace HBL : Hid (Below wq.heap.size wq W1) := by rw [← hd]; exact HBL.out.drew
        clear hX hd c16 c7 c15
        refine wp_region_still_tail 20 (by kernel_rfl) (by kernel_rfl) ?_
        simp only [List.take_succ_cons, List.take_zero, List.drop_succ_cons, List.drop_zero]
        repeat still_step
        still_call (qturn17e _ L2.out E17.out)
        repeat still_step
        still_call (qturn19e _ L2.out E19.out)
        repeat still_step
        refine wpStill_nil ?_
        go_wp2_with fail
        generalize hX : ({ heap := W1.heap, tape := W1.tape, drawn := W1.drawn + 1, os := W1.os, output := W1.output } : World) = wr
        have hd : W1.drew = wr := hX
        replace HRm : Hid (Row wr gm 0 (us (W.take i))) := by rw [← hd]; exact HRm.out.drew
        replace HO : Hid (Ow wr wq.heap.size (.slice (some ⟨gm, 0, none⟩) i cm) i (us (W.take i))) := by rw [← hd]; exact HO.out.drew
        replace HBL : Hid (Below wq.heap.size wq wr) := by rw [← hd]; exact HBL.out.drew
        obtain ⟨c16, c7⟩ := HCO.out _ HRm.out
        clear hX hd c2 r1 r2 r3 r4
        refine wp_region_ord (fun w9 => w9.cell? ⟨gm, j16, none⟩ = some (.int .u32 (x16 : Int)) ∧ w9.cell? ⟨gm, j7, none⟩ = some (.int .u32 (x7 : Int))) 18 [(0, some true), (1, some true), (2, some true), (3, some true), (4, some true), (5, some false), (6, some true), (7, some true), (8, some true), (9, some true), (10, some true), (11, some true), (12, some false), (13, some true), (14, some true), (15, some true), (16, none), (17, none), (18, none)] (by kernel_rfl) (by kernel_rfl) (fun _ _ _ _ h => HPAN.out _ _ _ _ h) ⟨c16, c7⟩ ?_
        refine ord_pureE (o := ⟨some 160, _, _, _, _, _⟩) rfl (by kernel_rfl) ⟨_, fun w9 => by (go_simp; try rfl), ?_⟩
        simp only [Act.put, List.setIfInBounds_toArray, List.set_cons_zero, List.set_cons_succ]
        refine ord_pureE (o := ⟨some 161, _, _, _, _, _⟩) rfl (by kernel_rfl) ⟨_, fun w9 => by (go_simp; try rfl), ?_⟩
        simp only [Act.put, List.setIfInBounds_toArray, List.set_cons_zero, List.set_cons_succ]
        refine ord_pureE (o := ⟨some 162, _, _, _, _, _⟩) rfl (by kernel_rfl) ⟨_, fun w9 => by (go_simp; try rfl), ?_⟩
        simp only [Act.put, List.setIfInBounds_toArray, List.set_cons_zero, List.set_cons_succ]
        refine ord_pureE (o := ⟨some 163, _, _, _, _, _⟩) rfl (by kernel_rfl) ⟨_, fun w9 => by (go_simp; try rfl), ?_⟩
        simp only [Act.put, List.setIfInBounds_toArray, List.set_cons_zero, List.set_cons_succ]
        refine ord_pureE (o := ⟨some 164, _, _, _, _, _⟩) rfl (by kernel_rfl) ⟨_, fun w9 => by (go_simp; try rfl), ?_⟩
        simp only [Act.put, List.setIfInBounds_toArray, List.set_cons_zero, List.set_cons_succ]
        refine ord_heldE (o := ⟨some 165, _, _, _, _, _⟩) rfl (by kernel_rfl) ⟨_, fun w9 h9 => by (obtain ⟨h91, h92⟩ := h9; go_simp; try rfl), ?_⟩
        simp only [Act.put, List.setIfInBounds_toArray, List.set_cons_zero, List.set_cons_succ]
        refine ord_pureE (o := ⟨some 166, _, _, _, _, _⟩) rfl (by kernel_rfl) ⟨_, fun w9 => by (go_simp; try rfl), ?_⟩
        simp only [Act.put, List.setIfInBounds_toArray, List.set_cons_zero, List.set_cons_succ]
        refine ord_pureE (o := ⟨some 167, _, _, _, _, _⟩) rfl (by kernel_rfl) ⟨_, fun w9 => by (go_simp; try rfl), ?_⟩
        simp only [Act.put, List.setIfInBounds_toArray, List.set_cons_zero, List.set_cons_succ]
        refine ord_pureE (o := ⟨some 168, _, _, _, _, _⟩) rfl (by kernel_rfl) ⟨_, fun w9 => by (go_simp; try rfl), ?_⟩
        simp only [Act.put, List.setIfInBounds_toArray, List.set_cons_zero, List.set_cons_succ]
        refine ord_pureE (o := ⟨some 169, _, _, _, _, _⟩) rfl (by kernel_rfl) ⟨_, fun w9 => by (go_simp; try rfl), ?_⟩
        simp only [Act.put, List.setIfInBounds_toArray, List.set_cons_zero, List.set_cons_succ]
        refine ord_pureE (o := ⟨some 170, _, _, _, _, _⟩) rfl (by kernel_rfl) ⟨_, fun w9 => by (go_simp; try rfl), ?_⟩
        simp only [Act.put, List.setIfInBounds_toArray, List.set_cons_zero, List.set_cons_succ]
        refine ord_pureE (o := ⟨some 171, _, _, _, _, _⟩) rfl (by kernel_rfl) ⟨_, fun w9 => by (go_simp; try rfl), ?_⟩
        simp only [Act.put, List.setIfInBounds_toArray, List.set_cons_zero, List.set_cons_succ]
        refine ord_heldE (o := ⟨some 172, _, _, _, _, _⟩) rfl (by kernel_rfl) ⟨_, fun w9 h9 => by (obtain ⟨h91, h92⟩ := h9; go_simp; try rfl), ?_⟩
        simp only [Act.put, List.setIfInBounds_toArray, List.set_cons_zero, List.set_cons_succ]
        refine ord_pureE (o := ⟨some 173, _, _, _, _, _⟩) rfl (by kernel_rfl) ⟨_, fun w9 => by (go_simp; try rfl), ?_⟩
        simp only [Act.put, List.setIfInBounds_toArray, List.set_cons_zero, List.set_cons_succ]
        refine ord_pureE (o := ⟨some 174, _, _, _, _, _⟩) rfl (by kernel_rfl) ⟨_, fun w9 => by (go_simp; try rfl), ?_⟩
        simp only [Act.put, List.setIfInBounds_toArray, List.set_cons_zero, List.set_cons_succ]
        refine ord_pureE (o := ⟨some 175, _, _, _, _, _⟩) rfl (by kernel_rfl) ⟨_, fun w9 => by (go_simp; try rfl), ?_⟩
        simp only [Act.put, List.setIfInBounds_toArray, List.set_cons_zero, List.set_cons_succ]
        refine ord_go rfl (fun K9 hK => ?_)
        go_simp
        refine hK.out _ _ (fun _ => HCO.out _ (HRm.out.alloc (.cells #[.int .u32 ((nu : Nat) : Int)] 51)).drew) ?_
        clear hK K9
        have hsz9 : wq.heap.size ≤ wr.heap.size := HBL.out.size
        refine ord_appendP (o := ⟨some 177, _, _, _, _, _⟩) rfl rfl (.tmp 160) (.tmp 176) 76 76 rfl 51 Try.underlying76 info32' (by decide) rfl rfl rfl (HO.out.keep ((Below.refl _ wr).alloc (Nat.le_refl _) (.cells #[.int .u32 ((nu : Nat) : Int)] 51))).drew ((Row.newL wr [.int .u32 ((nu : Nat) : Int)] 51).drew.src (n := 1) (cap := 1) rfl Try.underlying76 (fun u hu => by simp at hu; subst hu; rfl)) HI.out.2.1 (Nat.le_trans hsz9 (by simp)) (fun u hu => us_one' hu) ?_
        intro v9 w9 hO9 hA9 hold9
        have hB9 := hA9.below ((HO.out.keep ((Below.refl _ wr).alloc (Nat.le_refl _) (.cells #[.int .u32 ((nu : Nat) : Int)] 51))).drew) (Nat.le_trans hsz9 (by simp))
        have e9 : us (W.take i) ++ [Value.int .u32 ((nu : Nat) : Int)] = us (W.take i ++ [nu]) := by rw [us_app']; rfl
        rw [e9] at hO9
        have HO9 := hide hO9
        have HB9 := hide ((HBL.out.alloc hsz9 _).drew.trans hB9)
        refine ⟨fun _ => HCO.out _ (hold9 gm rfl), ?_⟩
        clear hO9 hB9 hsz9 e9 hA9 hold9
        simp only [Act.put, List.setIfInBounds_toArray, List.set_cons_zero, List.set_cons_succ]
        refine ord_go rfl (fun K9 hK => ?_)
        go_simp
        refine hK.out _ _ (fun h => by cases h) ?_
        clear hK K9
        refine ord_end ?_
        go_wp2_with fail
        go_roundg g5
        case measure => omega
        case rel => exact ⟨i + 1, HI.out.1, by go_num, by rw [HI.out.2.2, HNU.out]; exact HO9.out, HB9.out⟩
    · obtain rfl : i = 64 := by omega
      obtain ⟨gm, cm', hvm, hgm, hcm', hRm⟩ := HO.out.row (by decide)
      obtain ⟨rfl, rfl⟩ : am = some ⟨gm, 0, none⟩ ∧ cm = cm' := by simpa using hvm
      rw [List.take_of_length_le (by omega)] at hRm
      have HRm := hide hRm
      clear hvm hRm HO hig hi64 hcm'
      go_wp2_with fail
      exact ⟨gm, cm, rfl, hgm, HRm.out, HBL.out⟩
end Go.Proofs.Ytdcmjmmfclhfbaa
